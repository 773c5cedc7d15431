import Derived.Test.YtfabgoanammaiaaVals3
import Derived.Laws.OwnMore
import Derived.Laws.StructEq
import Derived.Laws.Small
namespace Go.Proofs.Ytfabgoanammaiaa
open Go.ChangeShapes Go.WideShapes Go.ChangeAt Go.RowKit
set_option linter.unusedVariables false

theorem below_drewN {B : Nat} {w : World} (n : Nat) : Below B w (w.drewN n) := by
  induction n generalizing w with
  | zero => exact Below.refl _ _
  | succ n ih => exact (ih (w := w)).drew
theorem infoV : (Try.prog.info? 45).map (fun i => (i.zero, i.size, i.bytes)) = some (some (.agg #[.int .i64 0, .int .i64 0, .string ⟨#[]⟩]), 3, 32) := by kernel_rfl
def cell3 (a : Int × Int × ByteArray) : List Value := [.int .i64 a.1, .int .i64 a.2.1, .string a.2.2]
def cells3 (vs : List (Int × Int × ByteArray)) : List Value := vs.flatMap cell3
theorem cells3_len : ∀ vs, (cells3 vs).length = vs.length * 3
  | [] => rfl
  | v :: vs => by
    have e : cells3 (v :: vs) = .int .i64 v.1 :: .int .i64 v.2.1 :: .string v.2.2 :: cells3 vs := rfl
    rw [e]
    simp only [List.length_cons, cells3_len vs]; omega
theorem cells3_get : ∀ (vs : List (Int × Int × ByteArray)) (i : Nat) (hi : i < vs.length), (cells3 vs)[i * 3]? = some (.int .i64 vs[i].1) ∧ (cells3 vs)[i * 3 + 1]? = some (.int .i64 vs[i].2.1) ∧ (cells3 vs)[i * 3 + 2]? = some (.string vs[i].2.2)
  | v :: vs, 0, _ => by simp [cells3, cell3]
  | v :: vs, i + 1, hi => by
    have := cells3_get vs i (by simp at hi; omega)
    have e : cells3 (v :: vs) = .int .i64 v.1 :: .int .i64 v.2.1 :: .string v.2.2 :: cells3 vs := rfl
    rw [e, show (i + 1) * 3 = i * 3 + 1 + 1 + 1 from by omega]
    simpa using this
/-- The slice value v holds just the values vs, in a row of the call's own. -/
def ownV (w : World) (B : Nat) (v : Value) (vs : List (Int × Int × ByteArray)) : Prop := w.ownsRow B 45 3 v vs.length (cells3 vs)
theorem ownV_nil (w : World) (B : Nat) : ownV w B (.slice none 0 0) [] := World.ownsRow_nil _ _ _ _
theorem ownV.sees {w : World} {B g n cap : Nat} {vs us : List (Int × Int × ByteArray)} (h : ownV w B (.slice (some ⟨g, 0, none⟩) n cap) vs) (hn : vs.length = n) (hu : us = vs.take us.length) (hl : us.length ≤ n) (h47 : us.length ≤ 140737488355328) : SeesV w w.heap.size (.slice (some ⟨g, 0, none⟩) us.length cap) us := by
  have hh := h
  rcases h.2 with ⟨h', _⟩ | ⟨g', cap', cur, h', hb, hg, hnc, hm, hs, ht⟩
  · simp at h'
  · simp only [Value.slice.injEq, Option.some.injEq, Addr.mk.injEq, and_true] at h'
    obtain ⟨rfl, hn', rfl⟩ := h'
    refine ⟨_, _, rfl, by omega, h47, fun i hi => ?_⟩
    have hlt : g < w.heap.size := by
      rcases Nat.lt_or_ge g w.heap.size with h | h
      · exact h
      · rw [Array.getElem?_eq_none h] at hg; cases hg
    refine ⟨g, 0, rfl, hlt, ?_⟩
    unfold ownV at hh
    rw [hn] at hh
    have c := cells3_get vs i (by omega)
    have e : us[i] = vs[i]'(by omega) := by
      have := congrArg (fun l : List (Int × Int × ByteArray) => l[i]?) hu
      simp only [List.getElem?_take, if_pos hi, List.getElem?_eq_getElem hi, List.getElem?_eq_getElem (show i < vs.length by omega)] at this
      exact Option.some.inj this
    rw [e]
    refine ⟨?_, ?_, ?_⟩
    · rw [show 0 + i * 3 = i * 3 from by omega, World.ownsRow.cellAt hh _ (by omega)]; exact c.1
    · rw [show 0 + i * 3 + 1 = i * 3 + 1 from by omega, World.ownsRow.cellAt hh _ (by omega)]; exact c.2.1
    · rw [show 0 + i * 3 + 2 = i * 3 + 2 from by omega, World.ownsRow.cellAt hh _ (by omega)]; exact c.2.2
theorem app_val {wr : World} {ops : Array Oper} {rest : List Oper} {o : Oper} {a : Act} {Q : Exit → Act → World → Prop} (hgd : o.guard = none) (s x : Operand)
    (ho : o.op = .call { callee := .builtin .append, args := #[s, x], argTypes := #[22, 22] })
    (B : Nat) (v : Value) (vs : List (Int × Int × ByteArray)) (c : Int × Int × ByteArray) (hown : ownV wr B v vs) (hs : a.eval s = v) (hx : a.eval x = .slice (some ⟨wr.heap.size, 0, none⟩) 1 1)
    (hlen : (vs.length + 1) * 32 ≤ 140737488355328) (hB : B ≤ wr.heap.size)
    (h : ∀ v' w', ownV w' B v' (vs ++ [c]) → Below B wr w' → wpList Try.prog ops Q rest (a.put o.dst v') w') :
    wpList Try.prog ops Q (o :: rest) a (wr.alloc (.cells #[.int .i64 c.1, .int .i64 c.2.1, .string c.2.2] 45)) := by
  obtain ⟨i0, hi, hz0, hz1, hz2⟩ := info_parts infoV
  refine wpList_append_own _ hgd s x 22 ho B 45 i0 (.agg #[.int .i64 0, .int .i64 0, .string ⟨#[]⟩]) 3 32 Try.underlying22 hi hz0 hz1 hz2 rfl (by decide) v vs.length _ hs (World.ownsRow.alloc hown _)
    ⟨wr.heap.size, 0, none⟩ 1 1 (cell3 c) hx rfl ?_ ?_ (by unfold maxLen; omega) (by omega) (by simp; omega) ?_
  · intro j u hj
    match j, hj with
    | 0, hj => simp [cell3] at hj; subst hj; simp [Addr.add]
    | 1, hj => simp [cell3] at hj; subst hj; simp [Addr.add]
    | 2, hj => simp [cell3] at hj; subst hj; simp [Addr.add]
  · intro u hu; simp [cell3] at hu; rcases hu with rfl | rfl | rfl <;> rfl
  · intro v' w' hown' hgrow _
    refine h v' w' ?_ ?_
    · have : (vs ++ [c]).length = vs.length + 1 := by simp
      unfold ownV; rw [this, show cells3 (vs ++ [c]) = cells3 vs ++ cell3 c from by simp [cells3]]; exact hown'
    · exact ((Below.refl _ _).alloc hB _).grown hgrow (by simp; omega) (fun k hk => (World.ownsRow.lt hown k hk).1)

theorem eqV (a b : Int × Int × ByteArray) (w : World) : (Op.equalIn 10000 45 (.agg #[.int .i64 a.1, .int .i64 a.2.1, .string a.2.2]) (.agg #[.int .i64 b.1, .int .i64 b.2.1, .string b.2.2])).run Try.prog w = .ok (a.1 == b.1 && a.2.1 == b.2.1 && a.2.2.toList == b.2.2.toList) w := by
  obtain ⟨a1, a2, a3⟩ := a
  obtain ⟨b1, b2, b3⟩ := b
  have u3 := Try.underlying43
  have u2 := Try.underlying2
  have u9 := Try.underlying9
  have hS : Try.prog.underlying 45 = some (.struct (Try.prog.fieldsOf 45)) := by kernel_rfl
  have hp : Try.prog.stoodInHeld 45 = false := by kernel_rfl
  rw [show (10000 : Nat) = 9999 + 1 from rfl, run_equalIn_agg w 9999 45 _ _ hS hp]
  simp only [Program.fieldsOf, Try.underlying45]
  go_simp
  by_cases h1 : a1 = b1 <;> by_cases h2 : a2 = b2 <;> by_cases h3 : a3.toList = b3.toList <;> simp [h1, h2, h3]
theorem eqV_self (a : Int × Int × ByteArray) (w : World) : (Op.equalIn 10000 45 (.agg #[.int .i64 a.1, .int .i64 a.2.1, .string a.2.2]) (.agg #[.int .i64 a.1, .int .i64 a.2.1, .string a.2.2])).run Try.prog w = .ok true w := by
  rw [eqV]; simp
theorem guardV : Try.prog.eqGuardType Try.prog.depth 45 = false := by kernel_rfl
set_option maxRecDepth 100000 in
set_option maxHeartbeats 1600000 in
theorem same_true (a b : Value) (vs : List (Int × Int × ByteArray)) (B : Nat) (w : World) (hB : B ≤ w.heap.size) (ha : SeesV w B a vs) (hb : SeesV w B b vs) :
    Calls Try.prog 15 #[a, b] w fun e w' => e = .returned (.bool true) ∧ Below B w w' := by
  obtain ⟨ao, cap, rfl, hl1, hc1, hs1⟩ := ha
  obtain ⟨bo, cap2, rfl, hl2, hc2, hs2⟩ := hb
  have HA : Hid _ := hs1
  have HBs : Hid _ := hs2
  have hgd := guardV
  clear hs1 hs2
  go_enter Try.func15, Try.ntmps15
  go_wp2
  go_loopw [5] (fun i wr => ∃ k : Nat, k ≤ vs.length ∧ i = .int .i64 k ∧ Below B w wr) (fun i _ => vs.length - (intOf i).toNat)
  case atStart => exact ⟨0, by omega, rfl, Below.refl _ _⟩
  case round =>
    obtain ⟨k, hk1, rfl, hbel⟩ := hrel
    have HBl : Hid (Below B w wr) := hbel
    clear hbel
    by_cases h1 : k < vs.length
    · obtain ⟨b1, o1, e1, hb1, x0, x1, x2⟩ := HA.out k h1
      have y0 := (HBl.out.cell (p := ⟨b1, o1 + k * 3, none⟩) hb1).trans x0
      have y1 := (HBl.out.cell (p := ⟨b1, o1 + k * 3 + 1, none⟩) hb1).trans x1
      have y2 := (HBl.out.cell (p := ⟨b1, o1 + k * 3 + 2, none⟩) hb1).trans x2
      clear x0 x1 x2
      subst e1
      obtain ⟨b2, o2, e2, hb2, x0, x1, x2⟩ := HBs.out k h1
      have z0 := (HBl.out.cell (p := ⟨b2, o2 + k * 3, none⟩) hb2).trans x0
      have z1 := (HBl.out.cell (p := ⟨b2, o2 + k * 3 + 1, none⟩) hb2).trans x1
      have z2 := (HBl.out.cell (p := ⟨b2, o2 + k * 3 + 2, none⟩) hb2).trans x2
      clear x0 x1 x2
      subst e2
      have hev := eqV_self vs[k]
      go_wp2_with fail
      go_quiet (fail)
      go_wp2
      go_roundw
      case rel => exact ⟨k + 1, by omega, by go_num, HBl.out.trans (below_drewN _)⟩
      case measure => simp [intOf]; omega
    · go_wp2
      go_ret
      exact ⟨rfl, HBl.out⟩
def markV : Int × Int × ByteArray := (77, 77, ⟨#[109, 97, 114, 107]⟩)
set_option maxRecDepth 100000 in
set_option maxHeartbeats 1600000 in
theorem room_any (a : Value) (vs : List (Int × Int × ByteArray)) (B : Nat) (w : World) (hB : B ≤ w.heap.size) (ha : SeesV w B a vs) (hr : (vs.length + 1) * 32 ≤ 140737488355328) :
    Calls Try.prog 14 #[a] w fun e w' => ∃ g cap, e = .returned (.slice (some ⟨g, 0, none⟩) (vs.length + 1) cap) ∧ ownV w' w.heap.size (.slice (some ⟨g, 0, none⟩) (vs.length + 1) cap) (vs ++ [markV]) ∧ Below w.heap.size w w' := by
  obtain ⟨ao, cap, rfl, hl1, hc1, hs1⟩ := ha
  have HA : Hid _ := hs1
  clear hs1
  obtain ⟨M, hMe⟩ : ∃ M, M = w.heap.size := ⟨_, rfl⟩
  have HM : Hid (M = w.heap.size) := hMe
  have hMw : M ≤ w.heap.size := by omega
  have hBM : B ≤ M := by omega
  clear hMe
  rw [← HM.out]
  go_enter Try.func14, Try.ntmps14
  go_wp2
  go_loopw [3, 4] (fun c i wr => ∃ k : Nat, k ≤ vs.length ∧ i = .int .i64 k ∧ ownV wr M c (vs.take k) ∧ Below M w wr) (fun _ i _ => vs.length - (intOf i).toNat)
  case atStart => exact ⟨0, by omega, rfl, ownV_nil _ _, Below.refl _ _⟩
  case round =>
    obtain ⟨k, hk1, rfl, hown, hbel⟩ := hrel
    have HBl : Hid (Below M w wr) := hbel
    have HO : Hid _ := hown
    have hMr : M ≤ wr.heap.size := by have := hbel.size; omega
    clear hbel hown
    by_cases h1 : k < vs.length
    · obtain ⟨b1, o1, e1, hb1, x0, x1, x2⟩ := HA.out k h1
      have y0 := (HBl.out.cell (p := ⟨b1, o1 + k * 3, none⟩) (by show b1 < M; omega)).trans x0
      have y1 := (HBl.out.cell (p := ⟨b1, o1 + k * 3 + 1, none⟩) (by show b1 < M; omega)).trans x1
      have y2 := (HBl.out.cell (p := ⟨b1, o1 + k * 3 + 2, none⟩) (by show b1 < M; omega)).trans x2
      clear x0 x1 x2
      subst e1
      have HT : Hid (vs.take (k + 1) = vs.take k ++ [vs[k]]) := List.take_succ_eq_append_getElem h1
      go_wp2_with (at_builtin; refine app_val (by rfl) _ _ (by rfl) M _ (vs.take k) vs[k] HO.out (by rfl) (by rfl) (by rw [List.length_take]; omega) hMr ?_; intro v' w1 hown1 hbel1; have HO1 : Hid _ := hown1; have HB1 : Hid _ := hbel1; clear hown1 hbel1)
      go_roundw
      case rel => exact ⟨k + 1, by omega, by go_num, by rw [HT.out]; exact HO1.out, HBl.out.trans HB1.out⟩
      case measure => simp [intOf]; omega
    · have hk' : vs.take k = vs := List.take_of_length_le (by omega)
      rw [hk'] at HO
      clear hk'
      go_wp2_with (at_builtin; refine app_val (by rfl) _ _ (by rfl) M _ vs markV HO.out (by rfl) (by rfl) hr hMr ?_; intro v' w1 hown1 hbel1; have HO1 : Hid _ := hown1; have HB1 : Hid _ := hbel1; clear hown1 hbel1)
      go_ret
      have ho := HO1.out
      rcases ho.2 with ⟨rfl, hn⟩ | ⟨g, cap', cur, hv, _⟩
      · simp at hn
      · simp only [List.length_append, List.length_singleton] at hv
        subst hv
        exact ⟨g, cap', rfl, HO1.out, HBl.out.trans HB1.out⟩
end Go.Proofs.Ytfabgoanammaiaa
