import Derived.Test.YtoojfoeehdoeoaaNt8
namespace Go.Proofs.Ytoojfoeehdoeoaa
open Go.ChangeShapes Go.WideShapes Go.ChangeAt Go.RowKit Go.Maps
set_option linter.unusedVariables false
set_option maxRecDepth 100000
/-- The ranges ys lie at ao, in blocks below B. -/
def SeesR (w : World) (B : Nat) (ao : Option Addr) (ys : List R2) : Prop := ∀ i (hi : i < ys.length), ∃ b off, ao = some ⟨b, off, none⟩ ∧ b < B ∧ w.cell? ⟨b, off + i * 2, none⟩ = some (.string ys[i].1) ∧ w.cell? ⟨b, off + i * 2 + 1, none⟩ = some (.string ys[i].2)
/-- The slice value v holds just the ranges xs (of type t), in a row of blocks from B on. -/
def ownRg (t : TypeId) (w : World) (B : Nat) (v : Value) (xs : List R2) : Prop := w.ownsRow B t 2 v xs.length (cellsR xs)
theorem ownRg.seesR {t : TypeId} {w : World} {B : Nat} {v : Value} {xs : List R2} (h : ownRg t w B v xs) : ∃ sp cap, v = .slice sp xs.length cap ∧ (sp = none → xs = [] ∧ cap = 0) ∧ SeesR w w.heap.size sp xs := by
  rcases h.2 with ⟨rfl, hn⟩ | ⟨b, cap, cur, rfl, h1, h2, h3⟩
  · exact ⟨none, 0, by rw [hn], fun _ => ⟨List.eq_nil_of_length_eq_zero hn, rfl⟩, fun i hi => by omega⟩
  · refine ⟨some ⟨b, 0, none⟩, cap, rfl, (fun e => by cases e), fun i hi => ⟨b, 0, rfl, (World.ownsRow.lt h b rfl).2, ?_⟩⟩
    have e0 := World.ownsRow.cellAt (g := b) (cap := cap) h (i * 2) (by omega)
    have e1 := World.ownsRow.cellAt (g := b) (cap := cap) h (i * 2 + 1) (by omega)
    obtain ⟨c0, c1⟩ := cellsR_get xs i hi
    rw [Nat.zero_add]
    exact ⟨e0.trans c0, e1.trans c1⟩
theorem SeesR.at {w : World} {B : Nat} {b off : Nat} {ys : List R2} (h : SeesR w B (some ⟨b, off, none⟩) ys) {j : Nat} {u : Value} (hj : (cellsR ys)[j]? = some u) : w.cell? ⟨b, off + j, none⟩ = some u := by
  have hlt : j < ys.length * 2 := by
    rw [← cellsR_len]
    rcases Nat.lt_or_ge j (cellsR ys).length with h1 | h1
    · exact h1
    · rw [List.getElem?_eq_none h1] at hj; cases hj
  have hi : j / 2 < ys.length := by omega
  obtain ⟨b', off', e, _, c0, c1⟩ := h (j / 2) hi
  injection e with e
  injection e with e1 e2
  subst e1 e2
  obtain ⟨d0, d1⟩ := cellsR_get ys (j / 2) hi
  rcases Nat.mod_two_eq_zero_or_one j with hm | hm
  · have ej : j = j / 2 * 2 := by omega
    rw [ej] at hj ⊢
    rw [d0] at hj
    rw [← hj]; exact c0
  · have ej : j = j / 2 * 2 + 1 := by omega
    rw [ej] at hj ⊢
    rw [d1] at hj
    rw [← hj, ← Nat.add_assoc]; exact c1
theorem cellsR_one : ∀ (xs : List R2) (u : Value), u ∈ cellsR xs → u.oneCell' = true
  | [], u, h => by cases h
  | x :: xs, u, h => by
    simp only [cellsR, List.mem_cons] at h
    rcases h with rfl | rfl | h
    · rfl
    · rfl
    · exact cellsR_one xs u h
theorem SeesR.al {w : World} {ob : Obj} {B : Nat} {sp : Option Addr} {ys : List R2} (h : SeesR w B sp ys) (hB : B ≤ w.heap.size) : SeesR (w.alloc ob) B sp ys := fun i hi => by
  obtain ⟨b, off, e, hb, c, d⟩ := h i hi
  exact ⟨b, off, e, hb, (cell_al w ob (p := ⟨b, off + i * 2, none⟩) (Nat.lt_of_lt_of_le hb hB)).trans c, (cell_al w ob (p := ⟨b, off + i * 2 + 1, none⟩) (Nat.lt_of_lt_of_le hb hB)).trans d⟩
/-- The type t is a pair of texts, and ts a slice of it. -/
structure IsR (t ts : TypeId) : Prop where
  sl : Try.prog.underlying ts = some (.slice t)
  info : (Try.prog.info? t).map (fun i => (i.zero, i.size, i.bytes)) = some (some (.agg #[.string ⟨#[]⟩, .string ⟨#[]⟩]), 2, 32)
theorem isRp : IsR 60 38 := ⟨Try.underlying38, infoR0⟩
theorem isRr : IsR 61 46 := ⟨Try.underlying46, by kernel_rfl⟩
theorem app_rgs {t ts : TypeId} (ht : IsR t ts) {w : World} {ops : Array Oper} {rest : List Oper} {o : Oper} {a : Act} {Q : Exit → Act → World → Prop} (hgd : o.guard = none) (s x : Operand)
    (ho : o.op = .call { callee := .builtin .append, args := #[s, x], argTypes := #[ts, ts] })
    (B C : Nat) (v : Value) (xs : List R2) (hown : ownRg t w B v xs) (hs : a.eval s = v) (ao : Option Addr) (cap : Nat) (vs : List R2) (hx : a.eval x = .slice ao vs.length cap) (hsee : SeesR w C ao vs) (hcap : ao = none → vs = [] ∧ cap = 0)
    (hao : ∀ ad, ao = some ad → ∃ b off, ad = ⟨b, off, none⟩) (hlen : (xs.length + vs.length) * 32 ≤ 140737488355328) (hB : B ≤ w.heap.size)
    (h : ∀ v' w', ownRg t w' B v' (xs ++ vs) → w.grownBy w' v.ownBlock → wpList Try.prog ops Q rest (a.put o.dst v') w') :
    wpList Try.prog ops Q (o :: rest) a w := by
  obtain ⟨i0, hi, hz0, hz1, hz2⟩ := info_parts ht.info
  match ao, hx, hsee, hcap, hao with
  | none, hx, hsee, hcap, _ =>
    obtain ⟨rfl, rfl⟩ := hcap rfl
    refine wpList_append_own_none hgd s x ts ho B t i0 2 ht.sl hi v xs.length _ hs hown hx (h v w ?_ ⟨rfl, rfl, rfl, Nat.le_refl _, fun _ _ _ => rfl⟩)
    rw [List.append_nil]; exact hown
  | some ad, hx, hsee, _, hao =>
    obtain ⟨b, off, rfl⟩ := hao ad rfl
    refine wpList_append_own _ hgd s x ts ho B t i0 _ 2 32 ht.sl hi hz0 hz1 hz2 rfl (by decide) v xs.length _ hs hown
      ⟨b, off, none⟩ vs.length cap (cellsR vs) hx (cellsR_len vs) ?_ (cellsR_one vs) (by unfold maxLen; omega) hlen hB ?_
    · intro j u hj
      have ea : (⟨b, off, none⟩ : Addr).add j = ⟨b, off + j, none⟩ := by unfold Addr.add; split <;> simp_all
      rw [ea]
      exact hsee.at hj
    · intro v' w' hown' hgrow _
      refine h v' w' ?_ hgrow
      unfold ownRg
      rw [List.length_append, cellsR_app]
      exact hown'
theorem own_litR0 (t : TypeId) (w : World) : ownRg t (w.alloc (.cells #[] t)) w.heap.size (.slice (some ⟨w.heap.size, 0, none⟩) 0 0) [] := World.ownsRow_made w #[] 0 (Nat.le_refl _) (by decide) rfl
theorem eqNilR (w : World) (a : Option Addr) (n c n' c' : Nat) : (binOp .eql 38 (.slice a n c) (.slice none n' c')).run Try.prog w = .ok (.bool a.isNone) w := Lib.run_eql_slice_nil w _ _ a n c n' c' Try.underlying38
theorem OnR.own {w : World} {g o : Nat} {v : Value} {m : Option Nat} {F : Nat → Prop} {xs : List R2} (h : OnR w g o v m F xs) : ownRg 60 w 0 v xs := h.row
theorem ownRg.plain {t : TypeId} {w : World} {B : Nat} {v : Value} {xs : List R2} (h : ownRg t w B v xs) : ∀ sp n cap, v = .slice sp n cap → ∀ ad, sp = some ad → ∃ b off, ad = ⟨b, off, none⟩ := by
  intro sp n cap e ad e2
  rcases h.2 with ⟨rfl, hn⟩ | ⟨b, cap, cur, rfl, h1, h2, h3⟩
  · injection e with e; rw [← e] at e2; cases e2
  · injection e with e; rw [← e] at e2; injection e2 with e2; exact ⟨b, 0, e2.symm⟩
set_option maxHeartbeats 1600000 in
theorem cloneR_any (w : World) (sp : Option Addr) (cap : Nat) (ys : List R2) (hs : SeesR w w.heap.size sp ys) (hcap : sp = none → ys = [] ∧ cap = 0) (hpl : ∀ ad, sp = some ad → ∃ b off, ad = ⟨b, off, none⟩) (hl : ys.length * 32 ≤ 140737488355328) :
    Calls Try.prog 29 #[.slice sp ys.length cap] w fun e w' => ∃ v', e = .returned v' ∧ ownRg 60 w' w.heap.size v' ys ∧ Below w.heap.size w w' := by
  have q := eqNilR
  cases sp with
  | none =>
    obtain ⟨rfl, rfl⟩ := hcap rfl
    go_enter Try.func29, Try.ntmps29
    go_wp2
    go_ret
    exact ⟨_, rfl, World.ownsRow_nil _ _ _ _, Below.refl _ _⟩
  | some ad =>
    have HS : Hid _ := hs
    have HP : Hid _ := hpl
    clear hs hcap hpl
    go_enter Try.func29, Try.ntmps29
    go_wp2_with (at_builtin; refine app_rgs isRp (by rfl) _ _ (by rfl) w.heap.size w.heap.size _ [] (own_litR0 60 w) (by rfl) (some ad) cap ys (by rfl) (SeesR.al (w := w) HS.out (Nat.le_refl _)) (by intro h; cases h) HP.out (by simp; omega) (by simp) ?_; intro v' w1 hown1 hgrow1; obtain ⟨av, lv, cv, rfl⟩ := row_slice hown1; have HO : Hid _ := hown1; have HG : Hid _ := hgrow1; clear hown1 hgrow1)
    go_ret
    refine ⟨_, rfl, by have := HO.out; rw [List.nil_append] at this; exact this, ?_⟩
    exact ((Below.refl _ _).alloc (Nat.le_refl _) _).grown HG.out (by simp) (fun k hk => by
      have : w.heap.size = k := by simpa [Value.ownBlock] using hk
      omega)
set_option maxHeartbeats 1600000 in
theorem allR_any (w : World) (g o : Nat) (v : Value) (m : Option Nat) (F : Nat → Prop) (xs : List R2) (h : OnR w g o v m F xs) (hl : xs.length ≤ 64) :
    Calls Try.prog 24 #[.pointer (some ⟨g, o, none⟩)] w fun e w' => ∃ v', e = .returned v' ∧ ownRg 60 w' w.heap.size v' xs ∧ Below w.heap.size w w' := by
  obtain ⟨sp, cap, rfl, hcap, hs⟩ := h.own.seesR
  have HP : Hid _ := h.own.plain sp xs.length cap rfl
  have c0 := h.c0
  have HS : Hid _ := hs
  have HC : Hid _ := hcap
  clear hs h hcap
  go_enter Try.func24, Try.ntmps24
  go_wp2_with fail
  refine (cloneR_any w sp cap xs HS.out HC.out HP.out (by omega)).mono ?_
  rintro _ w1 ⟨v', rfl, hown1, hb1⟩
  obtain ⟨av, lv, cv, rfl⟩ := row_slice hown1
  have HO : Hid _ := hown1
  have HB : Hid _ := hb1
  clear hown1 hb1
  go_wp2
  go_ret
  exact ⟨_, rfl, HO.out, HB.out⟩
set_option maxHeartbeats 1600000 in
theorem ranges_any (w : World) (g : Nat) (v : Value) (m : Option Nat) (F : Nat → Prop) (xs : List R2) (h : OnR w g 2 v m F xs) (hl : xs.length ≤ 64) :
    Calls Try.prog 17 #[.pointer (some ⟨g, 0, none⟩)] w fun e w' => ∃ v', e = .returned v' ∧ ownRg 60 w' w.heap.size v' xs ∧ Below w.heap.size w w' := by
  have HH : Hid _ := h
  clear h
  go_enter Try.func17, Try.ntmps17
  go_wp2_with fail
  refine (allR_any w g 2 v m F xs HH.out hl).mono ?_
  rintro _ w1 ⟨v', rfl, hown1, hb1⟩
  obtain ⟨av, lv, cv, rfl⟩ := row_slice hown1
  have HO : Hid _ := hown1
  have HB : Hid _ := hb1
  clear hown1 hb1
  go_wp2
  go_ret
  exact ⟨_, rfl, HO.out, HB.out⟩
set_option maxHeartbeats 1600000 in
theorem look_any (w : World) (g : Nat) (v : Value) (m : Option Nat) (F : Nat → Prop) (xs : List R2) (a b : ByteArray) (h : OnR w g 2 v m F xs) (hl : xs.length ≤ 64) (hx : okR (a, b)) (hxs : ∀ y ∈ xs, okR y) :
    Calls Try.prog 11 #[.pointer (some ⟨g, 0, none⟩), .string a, .string b] w fun e w' => e = .returned (.int .i64 (addER xs (a, b))) ∧ PutRg w g 2 F (addLR xs (a, b)) w' := by
  have HH : Hid _ := h
  have HX : Hid _ := hxs
  clear h hxs
  have HBR : Hid (Below w.heap.size w (w.alloc (.cells #[.string a, .string b] 60))) := (Below.refl _ _).alloc (Nat.le_refl _) _
  go_enter Try.func11, Try.ntmps11
  go_wp2_with fail
  refine (addR_any _ g 2 v m F xs w.heap.size 1 (a, b) (HH.out.later HBR.out) hl hx HX.out (by simp) (cell_two_new w _ _ _).1 (cell_two_new w _ _ _).2).mono ?_
  rintro _ w1 ⟨rfl, v2, m2, F2, on2, sub2, keep2, oth2⟩
  have HP : Hid (PutRg w g 2 F (addLR xs (a, b)) w1) := ⟨v2, m2, F2, on2, fun b hb => (sub2 b hb).imp id (fun e => by simp at e; omega), (Below.keeps HBR.out _).trans keep2, fun j h1 h2 => ⟨(oth2 j h1 h2).1.trans (cell_al w _ (cell_lt HH.out.c0)), (oth2 j h1 h2).2.trans (frozen_al w _ (cell_lt HH.out.c0))⟩⟩
  clear on2 sub2 keep2 oth2
  go_wp2
  go_ret
  exact ⟨rfl, HP.out⟩
set_option maxHeartbeats 1600000 in
theorem hasS_any (w : World) (g : Nat) (v : Value) (m : Option Nat) (F : Nat → Prop) (xs : List Int) (x : Int) (h : OnI w g 0 v m F xs) (hx : (Lit.int .i64 x).wf = true) :
    Calls Try.prog 13 #[.pointer (some ⟨g, 0, none⟩), .int .i64 x] w fun e w' => e = .returned (.bool (isIn xs x)) ∧ Below w.heap.size w w' := by
  have HH : Hid _ := h
  clear h
  go_enter Try.func13, Try.ntmps13
  go_wp2_with fail
  refine (hasI_any w g 0 v m F xs x HH.out hx).mono ?_
  rintro _ w1 ⟨rfl, hb1⟩
  have HB : Hid _ := hb1
  clear hb1
  go_wp2
  go_ret
  exact ⟨rfl, HB.out⟩
end Go.Proofs.Ytoojfoeehdoeoaa
