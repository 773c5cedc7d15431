import Derived.Test.YtoojfoeehdoeoaaNt2
import Derived.Laws.AppendOwnNone
import Derived.Lib.SliceRun
namespace Go.Proofs.Ytoojfoeehdoeoaa
open Go.ChangeShapes Go.WideShapes Go.ChangeAt Go.RowKit Go.Maps
set_option linter.unusedVariables false
set_option maxRecDepth 100000
/-- The slice value v holds just xs, in a row of blocks from B on. -/
def ownI (w : World) (B : Nat) (v : Value) (xs : List Int) : Prop := w.ownsRow B 3 1 v xs.length (cellsI xs)
theorem On.seesN {w : World} {g o : Nat} {v : Value} {m : Option Nat} {F : Nat → Prop} {xs : List Int} (h : OnI w g o v m F xs) : ∃ sp cap, v = .slice sp xs.length cap ∧ (sp = none → cap = 0) ∧ SeesN w w.heap.size sp xs := by
  rcases h.row.2 with ⟨rfl, hn⟩ | ⟨b, cap, cur, rfl, h1, h2, h3⟩
  · exact ⟨none, 0, by rw [hn], fun _ => rfl, fun i hi => by omega⟩
  · refine ⟨some ⟨b, 0, none⟩, cap, rfl, (fun e => by cases e), fun i hi => ⟨b, 0, rfl, h.lt b (h.inF b rfl), ?_⟩⟩
    have := World.ownsRow.cellAt (g := b) (cap := cap) h.row i (by omega)
    rw [Nat.zero_add, this]
    simp [cellsI, List.getElem?_eq_getElem hi]
theorem app_ints {w : World} {ops : Array Oper} {rest : List Oper} {o : Oper} {a : Act} {Q : Exit → Act → World → Prop} (hgd : o.guard = none) (s x : Operand)
    (ho : o.op = .call { callee := .builtin .append, args := #[s, x], argTypes := #[28, 28] })
    (B C : Nat) (v : Value) (xs : List Int) (hown : ownI w B v xs) (hs : a.eval s = v) (ao : Option Addr) (cap : Nat) (vs : List Int) (hx : a.eval x = .slice ao vs.length cap) (hsee : SeesN w C ao vs) (hcap : ao = none → vs = [] ∧ cap = 0)
    (hlen : (xs.length + vs.length) * 8 ≤ 140737488355328) (hB : B ≤ w.heap.size)
    (h : ∀ v' w', ownI w' B v' (xs ++ vs) → w.grownBy w' v.ownBlock → wpList Try.prog ops Q rest (a.put o.dst v') w') :
    wpList Try.prog ops Q (o :: rest) a w := by
  obtain ⟨i0, hi, hz0, hz1, hz2⟩ := info_parts infoI0
  match ao, hx, hsee, hcap with
  | none, hx, hsee, hcap =>
    obtain ⟨rfl, rfl⟩ := hcap rfl
    refine wpList_append_own_none hgd s x 28 ho B 3 i0 1 Try.underlying28 hi v xs.length _ hs hown hx (h v w ?_ ⟨rfl, rfl, rfl, Nat.le_refl _, fun _ _ _ => rfl⟩)
    rw [List.append_nil]; exact hown
  | some ad, hx, hsee, _ =>
    refine wpList_append_own _ hgd s x 28 ho B 3 i0 (.int .i64 0) 1 8 Try.underlying28 hi hz0 hz1 hz2 rfl (by decide) v xs.length _ hs hown
      ad vs.length cap (vs.map (Value.int .i64)) hx (by simp) ?_ ?_ (by unfold maxLen; omega) hlen hB ?_
    · intro j u hj
      rw [List.getElem?_map] at hj
      rcases Nat.lt_or_ge j vs.length with hl | hl
      · obtain ⟨b, off, e, _, c⟩ := hsee j hl
        injection e with e
        subst e
        rw [List.getElem?_eq_getElem hl] at hj
        simp only [Option.map_some, Option.some.injEq] at hj
        subst hj
        have ea : (⟨b, off, none⟩ : Addr).add j = ⟨b, off + j, none⟩ := by unfold Addr.add; split <;> simp_all
        rw [ea]
        exact c
      · rw [List.getElem?_eq_none hl] at hj
        simp at hj
    · intro u hu
      obtain ⟨y, _, rfl⟩ := List.mem_map.1 hu
      rfl
    · intro v' w' hown' hgrow _
      refine h v' w' ?_ hgrow
      unfold ownI cellsI
      rw [List.length_append, List.map_append]
      exact hown'
theorem own_lit0 (w : World) : ownI (w.alloc (.cells #[] 3)) w.heap.size (.slice (some ⟨w.heap.size, 0, none⟩) 0 0) [] := World.ownsRow_made w #[] 0 (Nat.le_refl _) (by decide) rfl
theorem SeesN.al {w : World} {ob : Obj} {B : Nat} {sp : Option Addr} {ys : List Int} (h : SeesN w B sp ys) (hB : B ≤ w.heap.size) : SeesN (w.alloc ob) B sp ys := fun i hi => by
  obtain ⟨b, off, e, hb, c⟩ := h i hi
  exact ⟨b, off, e, hb, (cell_al w ob (p := ⟨b, off + i, none⟩) (Nat.lt_of_lt_of_le hb hB)).trans c⟩
theorem SeesN.later {w w' : World} {B : Nat} {ao : Option Addr} {vs : List Int} (h : SeesN w B ao vs) (hb : Below B w w') : SeesN w' B ao vs := fun i hi => by
  obtain ⟨b, off, e, hbB, c0⟩ := h i hi
  exact ⟨b, off, e, hbB, by rw [hb.cell hbB]; exact c0⟩
theorem eqNilI (w : World) (a : Option Addr) (n c n' c' : Nat) : (binOp .eql 28 (.slice a n c) (.slice none n' c')).run Try.prog w = .ok (.bool a.isNone) w := Lib.run_eql_slice_nil w _ _ a n c n' c' Try.underlying28
set_option maxHeartbeats 1600000 in
theorem cloneI_any (w : World) (sp : Option Addr) (cap : Nat) (ys : List Int) (hs : SeesN w w.heap.size sp ys) (hcap : sp = none → ys = [] ∧ cap = 0) (hl : ys.length * 8 ≤ 140737488355328) :
    Calls Try.prog 28 #[.slice sp ys.length cap] w fun e w' => ∃ v', e = .returned v' ∧ ownI w' w.heap.size v' ys ∧ Below w.heap.size w w' := by
  have q := eqNilI
  cases sp with
  | none =>
    obtain ⟨rfl, rfl⟩ := hcap rfl
    go_enter Try.func28, Try.ntmps28
    go_wp2
    go_ret
    exact ⟨_, rfl, World.ownsRow_nil _ _ _ _, Below.refl _ _⟩
  | some ad =>
    have HS : Hid _ := hs
    clear hs hcap
    go_enter Try.func28, Try.ntmps28
    go_wp2_with (at_builtin; refine app_ints (by rfl) _ _ (by rfl) w.heap.size w.heap.size _ [] (own_lit0 w) (by rfl) (some ad) cap ys (by rfl) (SeesN.al (w := w) HS.out (Nat.le_refl _)) (by intro h; cases h) (by simp; omega) (by simp) ?_; intro v' w1 hown1 hgrow1; obtain ⟨av, lv, cv, rfl⟩ := row_slice hown1; have HO : Hid _ := hown1; have HG : Hid _ := hgrow1; clear hown1 hgrow1)
    go_ret
    refine ⟨_, rfl, by have := HO.out; rw [List.nil_append] at this; exact this, ?_⟩
    exact ((Below.refl _ _).alloc (Nat.le_refl _) _).grown HG.out (by simp) (fun k hk => by
      have : w.heap.size = k := by simpa [Value.ownBlock] using hk
      omega)
set_option maxHeartbeats 1600000 in
theorem allI_any (w : World) (g o : Nat) (v : Value) (m : Option Nat) (F : Nat → Prop) (xs : List Int) (h : OnI w g o v m F xs) (hl : xs.length ≤ 64) :
    Calls Try.prog 23 #[.pointer (some ⟨g, o, none⟩)] w fun e w' => ∃ v', e = .returned v' ∧ ownI w' w.heap.size v' xs ∧ Below w.heap.size w w' := by
  obtain ⟨sp, cap, rfl, hcap, hs⟩ := h.seesN
  have c0 := h.c0
  have HS : Hid _ := hs
  clear hs h
  go_enter Try.func23, Try.ntmps23
  go_wp2_with fail
  refine (cloneI_any w sp cap xs HS.out (fun e => ?_) (by omega)).mono ?_
  · refine ⟨?_, hcap e⟩
    cases xs with
    | nil => rfl
    | cons x xs => obtain ⟨b, off, e2, _⟩ := HS.out 0 (by simp); rw [e] at e2; cases e2
  · rintro _ w1 ⟨v', rfl, hown1, hb1⟩
    obtain ⟨av, lv, cv, rfl⟩ := row_slice hown1
    have HO : Hid _ := hown1
    have HB : Hid _ := hb1
    clear hown1 hb1
    go_wp2
    go_ret
    exact ⟨_, rfl, HO.out, HB.out⟩
set_option maxHeartbeats 1600000 in
theorem slots_any (w : World) (g : Nat) (v : Value) (m : Option Nat) (F : Nat → Prop) (xs : List Int) (h : OnI w g 0 v m F xs) (hl : xs.length ≤ 64) :
    Calls Try.prog 15 #[.pointer (some ⟨g, 0, none⟩)] w fun e w' => ∃ v', e = .returned v' ∧ ownI w' w.heap.size v' xs ∧ Below w.heap.size w w' := by
  have HH : Hid _ := h
  clear h
  go_enter Try.func15, Try.ntmps15
  go_wp2_with fail
  refine (allI_any w g 0 v m F xs HH.out hl).mono ?_
  rintro _ w1 ⟨v', rfl, hown1, hb1⟩
  obtain ⟨av, lv, cv, rfl⟩ := row_slice hown1
  have HO : Hid _ := hown1
  have HB : Hid _ := hb1
  clear hown1 hb1
  go_wp2
  go_ret
  exact ⟨_, rfl, HO.out, HB.out⟩
set_option maxHeartbeats 1600000 in
theorem read_any (w : World) (g : Nat) (v : Value) (m : Option Nat) (F : Nat → Prop) (xs : List Int) (ao : Option Addr) (cap : Nat) (ys : List Int) (h : OnI w g 0 v m F xs) (hl : xs.length ≤ 64) (hs : SeesN w w.heap.size ao ys) (hy : ys.length ≤ 140737488355328) (hw : ∀ y ∈ ys, (Lit.int .i64 y).wf = true) :
    Calls Try.prog 8 #[.pointer (some ⟨g, 0, none⟩), .slice ao ys.length cap] w fun e w' => e = .returned (.int .i64 (addE xs ys)) ∧ PutI w g 0 F (addL xs ys) w' := by
  have HH : Hid _ := h
  have HS : Hid _ := hs
  have HW : Hid _ := hw
  clear h hs hw
  go_enter Try.func8, Try.ntmps8
  go_wp2_with fail
  refine (addI_any w g 0 v m F xs ao cap ys HH.out hl HS.out hy HW.out).mono ?_
  rintro _ w1 ⟨rfl, hp⟩
  have HP : Hid _ := hp
  clear hp
  go_wp2
  go_ret
  exact ⟨rfl, HP.out⟩
end Go.Proofs.Ytoojfoeehdoeoaa
