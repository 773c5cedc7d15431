import Derived.Test.YtjceellpmopnkaaDoorMg1
namespace Go.Proofs.YtjceellpmopnkaaDoor
open Go.ChangeShapes Go.WideShapes Go.ChangeAt Go.RowKit
set_option linter.unusedVariables false
set_option maxRecDepth 100000
theorem PnAt.at {w : World} {b o : Nat} {p : PN} (h : PnAt w b o p) {j : Nat} {u : Value} (hj : (cellP p)[j]? = some u) : w.cell? ⟨b, o + j, none⟩ = some u := by
  obtain ⟨c0, c1, c2, c3, c4, c5, c6, c7⟩ := h
  match j, hj with
  | 0, hj => simp [cellP] at hj; subst hj; exact c0
  | 1, hj => simp [cellP] at hj; subst hj; exact c1
  | 2, hj => simp [cellP] at hj; subst hj; exact c2
  | 3, hj => simp [cellP] at hj; subst hj; exact c3
  | 4, hj => simp [cellP] at hj; subst hj; exact c4
  | 5, hj => simp [cellP] at hj; subst hj; exact c5
  | 6, hj => simp [cellP] at hj; subst hj; exact c6
  | 7, hj => simp [cellP] at hj; subst hj; exact c7
  | j + 8, hj => simp [cellP] at hj
theorem cellsP_at : ∀ (vs : List PN) (j : Nat) (u : Value), (cellsP vs)[j]? = some u → ∃ hi : j / 8 < vs.length, (cellP vs[j / 8])[j % 8]? = some u
  | [], j, u, h => by simp [cellsP] at h
  | v :: vs, j, u, h => by
    rw [show cellsP (v :: vs) = cellP v ++ cellsP vs from rfl] at h
    have hl : (cellP v).length = 8 := rfl
    by_cases hj : j < 8
    · rw [List.getElem?_append_left (by omega)] at h
      refine ⟨by simp; omega, ?_⟩
      have e1 : j / 8 = 0 := by omega
      have e2 : j % 8 = j := by omega
      simp only [e1, e2, List.getElem_cons_zero]
      exact h
    · rw [List.getElem?_append_right (by omega), hl] at h
      obtain ⟨hi, hu⟩ := cellsP_at vs (j - 8) u h
      have e1 : j / 8 = (j - 8) / 8 + 1 := by omega
      have e2 : j % 8 = (j - 8) % 8 := by omega
      refine ⟨by simp; omega, ?_⟩
      simp only [e1, e2, List.getElem_cons_succ]
      exact hu
theorem SeesP.at {w : World} {B : Nat} {b off : Nat} {vs : List PN} (h : SeesP w B (some ⟨b, off, none⟩) vs) {j : Nat} {u : Value} (hj : (cellsP vs)[j]? = some u) : w.cell? ⟨b, off + j, none⟩ = some u := by
  obtain ⟨hi, hu⟩ := cellsP_at vs j u hj
  obtain ⟨b', off', e, _, hp⟩ := h _ hi
  simp only [Option.some.injEq, Addr.mk.injEq, and_true] at e
  obtain ⟨rfl, rfl⟩ := e
  have := hp.at hu
  rwa [show off + j / 8 * 8 + j % 8 = off + j from by omega] at this
theorem app_pns {w : World} {ops : Array Oper} {rest : List Oper} {o : Oper} {a : Act} {Q : Exit → Act → World → Prop} (hgd : o.guard = none) (s x : Operand)
    (ho : o.op = .call { callee := .builtin .append, args := #[s, x], argTypes := #[23, 23] })
    (B C : Nat) (v : Value) (xs : List PN) (hown : ownP w B v xs) (hs : a.eval s = v) (ao : Option Addr) (cap : Nat) (vs : List PN) (hx : a.eval x = .slice ao vs.length cap) (hsee : SeesP w C ao vs) (hcap : ao = none → vs = [] ∧ cap = 0)
    (hao : ∀ ad, ao = some ad → vs ≠ [] → ∃ b off, ad = ⟨b, off, none⟩) (hlen : (xs.length + vs.length) * 56 ≤ 140737488355328) (hB : B ≤ w.heap.size)
    (h : ∀ v' w', ownP w' B v' (xs ++ vs) → w.grownBy w' v.ownBlock → wpList Tryd.prog ops Q rest (a.put o.dst v') w') :
    wpList Tryd.prog ops Q (o :: rest) a w := by
  obtain ⟨i0, hi, hz0, hz1, hz2⟩ := info_parts infoP
  match ao, hx, hsee, hcap, hao with
  | none, hx, hsee, hcap, _ =>
    obtain ⟨rfl, rfl⟩ := hcap rfl
    refine wpList_append_own_none hgd s x 23 ho B 36 i0 8 Tryd.underlying23 hi v xs.length _ hs hown hx (h v w ?_ ⟨rfl, rfl, rfl, Nat.le_refl _, fun _ _ _ => rfl⟩)
    rw [List.append_nil]; exact hown
  | some ad, hx, hsee, _, hao =>
    refine wpList_append_own _ hgd s x 23 ho B 36 i0 _ 8 56 Tryd.underlying23 hi hz0 hz1 hz2 rfl (by decide) v xs.length _ hs hown
      ad vs.length cap (cellsP vs) hx (cellsP_len vs) ?_ (cellsP_one vs) (by unfold maxLen; omega) hlen hB ?_
    · intro j u hj
      obtain ⟨b, off, rfl⟩ := hao ad rfl (fun e => by rw [e] at hj; simp [cellsP] at hj)
      have ea : (⟨b, off, none⟩ : Addr).add j = ⟨b, off + j, none⟩ := by unfold Addr.add; split <;> simp_all
      rw [ea]
      exact hsee.at hj
    · intro v' w' hown' hgrow _
      refine h v' w' ?_ hgrow
      unfold ownP
      rw [List.length_append, cellsP_app]
      exact hown'
theorem own_litP0 (w : World) : ownP (w.alloc (.cells #[] 36)) w.heap.size (.slice (some ⟨w.heap.size, 0, none⟩) 0 0) [] := World.ownsRow_made w #[] 0 (Nat.le_refl _) (by decide) rfl
/-- A copy of a manifest. -/
def TwC (w : World) (gen next upto : Int) (ps : List PN) (e : Ending) (w' : World) : Prop := Below w.heap.size w w' ∧ ∃ v, e = .returned (.agg #[.int .i64 gen, .int .i64 next, .int .u64 upto, v]) ∧ ownP w' w.heap.size v ps
set_option maxHeartbeats 3200000 in
theorem twin_any (w : World) (gen next upto : Int) (ao : Option Addr) (cap : Nat) (ps : List PN) (ha : SeesP w w.heap.size ao ps) (hcap : ao = none → ps = [] ∧ cap = 0) (hao : ∀ ad, ao = some ad → ps ≠ [] → ∃ b off, ad = ⟨b, off, none⟩) (hl : ps.length * 56 ≤ 140737488355328) :
    Calls Tryd.prog 4 #[.agg #[.int .i64 gen, .int .i64 next, .int .u64 upto, .slice ao ps.length cap]] w (TwC w gen next upto ps) := by
  have HA : Hid _ := ha
  have HCp : Hid _ := hcap
  have HAo : Hid _ := hao
  clear ha hcap hao
  have HB3 : Hid (Below w.heap.size w (((w.alloc (.cells #[.int .i64 gen, .int .i64 next, .int .u64 upto, .slice ao ps.length cap] 25)).alloc (.cells #[.int .i64 0, .int .i64 0, .int .u64 0, .slice none 0 0] 25)).alloc (.cells #[.int .i64 gen, .int .i64 next, .int .u64 upto, .slice ao ps.length cap] 25))) := (((Below.refl _ _).alloc (Nat.le_refl _) _).alloc (by simp) _).alloc (by simp; omega) _
  have HSz : Hid ((((w.alloc (.cells #[.int .i64 gen, .int .i64 next, .int .u64 upto, .slice ao ps.length cap] 25)).alloc (.cells #[.int .i64 0, .int .i64 0, .int .u64 0, .slice none 0 0] 25)).alloc (.cells #[.int .i64 gen, .int .i64 next, .int .u64 upto, .slice ao ps.length cap] 25)).heap.size = w.heap.size + 3) := by show _ = _; simp
  have HN : Hid (Mn4 (((w.alloc (.cells #[.int .i64 gen, .int .i64 next, .int .u64 upto, .slice ao ps.length cap] 25)).alloc (.cells #[.int .i64 0, .int .i64 0, .int .u64 0, .slice none 0 0] 25)).alloc (.cells #[.int .i64 gen, .int .i64 next, .int .u64 upto, .slice ao ps.length cap] 25)) (w.heap.size + 2) (.int .i64 gen) (.int .i64 next) (.int .u64 upto) (.slice ao ps.length cap)) := by
    have := heap_alloc_new ((w.alloc (.cells #[.int .i64 gen, .int .i64 next, .int .u64 upto, .slice ao ps.length cap] 25)).alloc (.cells #[.int .i64 0, .int .i64 0, .int .u64 0, .slice none 0 0] 25)) (.cells #[.int .i64 gen, .int .i64 next, .int .u64 upto, .slice ao ps.length cap] 25)
    rw [show ((w.alloc (.cells #[.int .i64 gen, .int .i64 next, .int .u64 upto, .slice ao ps.length cap] 25)).alloc (.cells #[.int .i64 0, .int .i64 0, .int .u64 0, .slice none 0 0] 25)).heap.size = w.heap.size + 2 from by simp] at this
    exact this
  have HZ : Hid (Mn4 (((w.alloc (.cells #[.int .i64 gen, .int .i64 next, .int .u64 upto, .slice ao ps.length cap] 25)).alloc (.cells #[.int .i64 0, .int .i64 0, .int .u64 0, .slice none 0 0] 25)).alloc (.cells #[.int .i64 gen, .int .i64 next, .int .u64 upto, .slice ao ps.length cap] 25)) (w.heap.size + 1) (.int .i64 0) (.int .i64 0) (.int .u64 0) (.slice none 0 0)) := by
    have := heap_alloc_new (w.alloc (.cells #[.int .i64 gen, .int .i64 next, .int .u64 upto, .slice ao ps.length cap] 25)) (.cells #[.int .i64 0, .int .i64 0, .int .u64 0, .slice none 0 0] 25)
    rw [show (w.alloc (.cells #[.int .i64 gen, .int .i64 next, .int .u64 upto, .slice ao ps.length cap] 25)).heap.size = w.heap.size + 1 from by simp] at this
    exact (Below.heap_alloc _ _ _ (by simp)).trans this
  go_enter Tryd.func4, Tryd.ntmps4
  go_wp2_with (at_builtin; refine hideG ?_)
  change wpList _ _ _ _ _ _
  generalize (((w.alloc (.cells #[.int .i64 gen, .int .i64 next, .int .u64 upto, .slice ao ps.length cap] 25)).alloc (.cells #[.int .i64 0, .int .i64 0, .int .u64 0, .slice none 0 0] 25)).alloc (.cells #[.int .i64 gen, .int .i64 next, .int .u64 upto, .slice ao ps.length cap] 25)) = W3 at *
  have hal : Below W3.heap.size W3 (W3.alloc (.cells #[] 36)) := (Below.refl _ _).alloc (Nat.le_refl _) _
  refine app_pns (by rfl) _ _ (by rfl) W3.heap.size w.heap.size _ [] (own_litP0 W3) (by rw [HSz.out]; rfl) ao cap ps (by rfl) (SeesP.later HA.out (HB3.out.trans (hal.mono HB3.out.size))) HCp.out HAo.out (by simpa using hl) (by simp) ?_
  intro v' w' ho hgrow
  rw [List.nil_append] at ho
  obtain ⟨a', n', c', rfl⟩ := ho.isSlice
  have hkeep : ∀ k, k < W3.heap.size → w'.heap[k]? = W3.heap[k]? := fun k hk => (hgrow.block k (by simp; omega) (fun e => by injection e with e; have e' : k = W3.heap.size := e; omega)).trans (Below.heap_alloc _ _ k hk)
  have hN' : Mn4 w' (w.heap.size + 2) (.int .i64 gen) (.int .i64 next) (.int .u64 upto) (.slice ao ps.length cap) := (hkeep _ HN.out.lt).trans HN.out
  have hZ' : Mn4 w' (w.heap.size + 1) (.int .i64 0) (.int .i64 0) (.int .u64 0) (.slice none 0 0) := (hkeep _ HZ.out.lt).trans HZ.out
  have HB' : Hid (Below w.heap.size w w') := HB3.out.trans ((hal.mono HB3.out.size).grown hgrow (by simp; have := HSz.out; omega) (fun k hk => by injection hk with hk; have e' : W3.heap.size = k := hk; have := HSz.out; omega))
  have HO' : Hid (ownP w' W3.heap.size (.slice a' n' c') ps) := ho
  have HZ' : Hid (Mn4 w' (w.heap.size + 1) (.int .i64 0) (.int .i64 0) (.int .u64 0) (.slice none 0 0)) := hZ'
  have u0 : w'.cell? ⟨w.heap.size + 2, 0, none⟩ = some (.int .i64 gen) := hN'.cell 0
  have u1 : w'.cell? ⟨w.heap.size + 2, 1, none⟩ = some (.int .i64 next) := hN'.cell 1
  have u2 : w'.cell? ⟨w.heap.size + 2, 2, none⟩ = some (.int .u64 upto) := hN'.cell 2
  have u3 : w'.cell? ⟨w.heap.size + 2, 3, none⟩ = some (.slice ao ps.length cap) := hN'.cell 3
  have g3 := hN'.free 3
  have z0 : w'.cell? ⟨w.heap.size + 1, 0, none⟩ = some (.int .i64 0) := hZ'.cell 0
  have z1 : w'.cell? ⟨w.heap.size + 1, 1, none⟩ = some (.int .i64 0) := hZ'.cell 1
  have z2 : w'.cell? ⟨w.heap.size + 1, 2, none⟩ = some (.int .u64 0) := hZ'.cell 2
  have z3 : w'.cell? ⟨w.heap.size + 1, 3, none⟩ = some (.slice none 0 0) := hZ'.cell 3
  have o0 := hZ'.free 0
  have o1 := hZ'.free 1
  have o2 := hZ'.free 2
  have o3 := hZ'.free 3
  clear ho hgrow hkeep hN' hZ' hal HN HZ HB3 HA HCp HAo
  go_wp2
  have hz1 := (HZ'.out.other (p := ⟨w.heap.size + 2, 3, none⟩) (.slice a' n' c') (by simp only; omega)).setAll (.int .i64 gen) (.int .i64 next) (.int .u64 upto) (.slice a' n' c')
  refine bodyPost_ret (ret_mn rfl _ _ _ _ _ _ (w.heap.size + 1) (by rfl) hz1) rfl ⟨?_, _, rfl, ?_⟩
  · exact ((((HB'.out.setCell (p := ⟨w.heap.size + 2, 3, none⟩) (by simp only; omega) _).setCell (p := ⟨w.heap.size + 1, 0, none⟩) (by simp only; omega) _).setCell (p := ⟨w.heap.size + 1, 1, none⟩) (by simp only; omega) _).setCell (p := ⟨w.heap.size + 1, 2, none⟩) (by simp only; omega) _).setCell (p := ⟨w.heap.size + 1, 3, none⟩) (by simp only; omega) _
  · refine (HO'.out.same fun k hk hB => ?_).mono (by have := HSz.out; omega)
    have hsz := HSz.out
    have hne : k ≠ w.heap.size + 1 := by omega
    have hne2 : k ≠ w.heap.size + 2 := by omega
    exact (Below.heap_setCell _ _ _ k hne).trans ((Below.heap_setCell _ _ _ k hne).trans ((Below.heap_setCell _ _ _ k hne).trans ((Below.heap_setCell _ _ _ k hne).trans (Below.heap_setCell _ _ _ k hne2))))
end Go.Proofs.YtjceellpmopnkaaDoor
