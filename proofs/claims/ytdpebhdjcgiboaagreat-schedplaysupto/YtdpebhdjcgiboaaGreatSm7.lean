import Derived.Test.YtdpebhdjcgiboaaGreatSm5
namespace Go.Proofs.YtdpebhdjcgiboaaGreat
set_option linter.unusedSimpArgs false
open Go.ChangeShapes Go.WideShapes Go.ChangeAt Go.RowKit Go.MuLone Go.RwLone
set_option linter.unusedVariables false
set_option maxRecDepth 100000
set_option maxHeartbeats 6400000
/-- How many places are pending. -/
theorem lk_pend (w : World) (G H P Q : Nat → Prop) (B : Bd) (bb b1 b2 : Nat) (tv : Value) (R : Rd) (r1 r2 hb qb rb sb sd : Nat) (a0 : Hp) (a : Hp × Ls) (ts : List (List I8)) (wd c nw : Nat) (p : PSt w G H P Q B bb b1 b2 tv R r1 r2 hb qb rb sb sd a0 a ts wd c nw) (wh tg nn : Int) (pa : Option Addr) (pn pc : Nat) (ma : Option Addr) (mn mc : Nat) :
    Calls Tryz.prog 36 #[.pointer (some ⟨sd, 0, none⟩), .agg (opC 5 wh tg nn (.slice pa pn pc) (.slice ma mn mc))] w fun e w' => e = .returned (.bool true) ∧ MvP w G H P Q B bb b1 b2 tv R r1 r2 hb qb rb sb sd a0 ts wd c nw w' := by
  have HS : Hid (∀ W, Keeps (fun _ => False) (opW w 5 wh tg nn (.slice pa pn pc) (.slice ma mn mc)) W → (W.cell? ⟨sd, 0, none⟩ = some (.pointer (some ⟨hb, 0, none⟩)) ∧ W.cell? ⟨sd, 1, none⟩ = some (.pointer (some ⟨bb, 0, none⟩)) ∧ W.cell? ⟨sd, 2, none⟩ = some (.pointer (some ⟨rb, 0, none⟩)) ∧ W.cell? ⟨sd, 3, none⟩ = some (.pointer (some ⟨R.bk, 0, none⟩))) ∧ W.cell? ⟨w.heap.size, 1, none⟩ = some (.int .i64 wh)) := fun W k => by
    have h := p.cells 5 wh tg nn (.slice pa pn pc) (.slice ma mn mc) W (fun _ => False) k (fun _ e => e.elim)
    exact ⟨h.1, h.2.1⟩
  have HQ : Hid (∀ W, Keeps (fun _ => False) (opW w 5 wh tg nn (.slice pa pn pc) (.slice ma mn mc)) W → PSt W G H P Q B bb b1 b2 tv R r1 r2 hb qb rb sb sd a0 a ts wd c nw) := fun W k => p.still (((Keeps.refl _ _).alloc _).trans k)
  have HX : Hid (∀ W, Keeps (fun _ => False) (opW w 5 wh tg nn (.slice pa pn pc) (.slice ma mn mc)) W → MvP w G H P Q B bb b1 b2 tv R r1 r2 hb qb rb sb sd a0 ts wd c nw W) := fun W k => (p.still (((Keeps.refl _ _).alloc _).trans k)).mv (((Keeps.refl _ _).alloc _).trans k)
  have h0 := HS.out (opW w 5 wh tg nn (.slice pa pn pc) (.slice ma mn mc)).drew (Keeps.refl _ _).drew
  obtain ⟨val, hval⟩ : ∃ val, ((pendP a.1 wh : Nat) : Int) = val := ⟨_, rfl⟩
  have HV : Hid (((pendP a.1 wh : Nat) : Int) = val) := hval
  clear p hval
  go_enter Tryz.func36, Tryz.ntmps36
  go_wp2_with fail
  (refine wp_region_held_drew (S := (fun W => W.cell? ⟨sd, 0, none⟩ = some (.pointer (some ⟨hb, 0, none⟩)) ∧ W.cell? ⟨sd, 2, none⟩ = some (.pointer (some ⟨rb, 0, none⟩)) ∧ W.cell? ⟨w.heap.size, 1, none⟩ = some (.int .i64 wh))) (by kernel_rfl) ⟨h0.1.1, h0.1.2.2.1, h0.2⟩ (fun hHeld => ?_); simp only [List.size_toArray, List.length_cons, List.length_nil, Nat.reduceAdd, Array.replicate_succ, Array.replicate_zero, List.push_toArray, List.append_toArray, List.nil_append, List.cons_append])
  refine rgT 0 (h := ?_)
  refine rgT 1 (h := ?_)
  refine rgT 2 (h := ?_)
  refine rgT 3 (h := ?_)
  refine rgT 4 (h := ?_)
  refine rgT 5 (h := ?_)
  refine rgT 7 (h := ?_)
  refine rgT 8 (h := ?_)
  refine rgT 9 (h := ?_)
  refine rgT 10 (h := ?_)
  refine rgT 11 (h := ?_)
  refine rgT 12 (h := ?_)
  (refine rgS 6 (h := fun K hK => ?_); go_simp)
  obtain ⟨qv, ev, en, m⟩ := (HQ.out (opW w 5 wh tg nn (.slice pa pn pc) (.slice ma mn mc)).drew (Keeps.refl _ _).drew).q.m
  refine (hpend_any m wh).mono ?_
  rintro e w1 ⟨rfl, rfl⟩
  rw [HV.out]
  clear m
  (refine hK.out _ _ ⟨h0.1.1, h0.1.2.2.1, h0.2⟩ (fun hHeld => ?_); clear hK K; try simp only [Act.put, List.setIfInBounds_toArray, List.set_cons_zero, List.set_cons_succ])
  (refine rgS 13 (h := fun K hK => ?_); go_simp)
  obtain ⟨uv, uev, uen, n⟩ := (HQ.out (opW w 5 wh tg nn (.slice pa pn pc) (.slice ma mn mc)).drew (Keeps.refl _ _).drew).q.n
  refine (rpend_any n wh).mono ?_
  rintro e w1 ⟨rfl, rfl⟩
  rw [HV.out]
  clear n
  (refine hK.out _ _ ⟨h0.1.1, h0.1.2.2.1, h0.2⟩ (fun hHeld => ?_); clear hK K; try simp only [Act.put, List.setIfInBounds_toArray, List.set_cons_zero, List.set_cons_succ])
  refine rgT 14 (h := ?_)
  refine rgT 15 (h := ?_)
  refine wpAnyH_done (by kernel_rfl) ?_ _
  have HY := HX.out (opW w 5 wh tg nn (.slice pa pn pc) (.slice ma mn mc)).drew (Keeps.refl _ _).drew
  clear h0
  go_wp2
  go_ret
  exact ⟨rfl, HX.out _ (Keeps.refl _ _).drew⟩
/-- Is all idle? -/
theorem lk_idle (w : World) (G H P Q : Nat → Prop) (B : Bd) (bb b1 b2 : Nat) (tv : Value) (R : Rd) (r1 r2 hb qb rb sb sd : Nat) (a0 : Hp) (a : Hp × Ls) (ts : List (List I8)) (wd c nw : Nat) (p : PSt w G H P Q B bb b1 b2 tv R r1 r2 hb qb rb sb sd a0 a ts wd c nw) (wh tg nn : Int) (pa : Option Addr) (pn pc : Nat) (ma : Option Addr) (mn mc : Nat) :
    Calls Tryz.prog 36 #[.pointer (some ⟨sd, 0, none⟩), .agg (opC 6 wh tg nn (.slice pa pn pc) (.slice ma mn mc))] w fun e w' => e = .returned (.bool true) ∧ MvP w G H P Q B bb b1 b2 tv R r1 r2 hb qb rb sb sd a0 ts wd c nw w' := by
  have HS : Hid (∀ W, Keeps (fun _ => False) (opW w 6 wh tg nn (.slice pa pn pc) (.slice ma mn mc)) W → (W.cell? ⟨sd, 0, none⟩ = some (.pointer (some ⟨hb, 0, none⟩)) ∧ W.cell? ⟨sd, 1, none⟩ = some (.pointer (some ⟨bb, 0, none⟩)) ∧ W.cell? ⟨sd, 2, none⟩ = some (.pointer (some ⟨rb, 0, none⟩)) ∧ W.cell? ⟨sd, 3, none⟩ = some (.pointer (some ⟨R.bk, 0, none⟩))) ∧ W.cell? ⟨w.heap.size, 1, none⟩ = some (.int .i64 wh)) := fun W k => by
    have h := p.cells 6 wh tg nn (.slice pa pn pc) (.slice ma mn mc) W (fun _ => False) k (fun _ e => e.elim)
    exact ⟨h.1, h.2.1⟩
  have HQ : Hid (∀ W, Keeps (fun _ => False) (opW w 6 wh tg nn (.slice pa pn pc) (.slice ma mn mc)) W → PSt W G H P Q B bb b1 b2 tv R r1 r2 hb qb rb sb sd a0 a ts wd c nw) := fun W k => p.still (((Keeps.refl _ _).alloc _).trans k)
  have HX : Hid (∀ W, Keeps (fun _ => False) (opW w 6 wh tg nn (.slice pa pn pc) (.slice ma mn mc)) W → MvP w G H P Q B bb b1 b2 tv R r1 r2 hb qb rb sb sd a0 ts wd c nw W) := fun W k => (p.still (((Keeps.refl _ _).alloc _).trans k)).mv (((Keeps.refl _ _).alloc _).trans k)
  have h0 := HS.out (opW w 6 wh tg nn (.slice pa pn pc) (.slice ma mn mc)).drew (Keeps.refl _ _).drew
  obtain ⟨val, hval⟩ : ∃ val, idleP a.1 = val := ⟨_, rfl⟩
  have HV : Hid (idleP a.1 = val) := hval
  clear p hval
  go_enter Tryz.func36, Tryz.ntmps36
  go_wp2_with fail
  (refine wp_region_held_drew (S := (fun W => W.cell? ⟨sd, 0, none⟩ = some (.pointer (some ⟨hb, 0, none⟩)) ∧ W.cell? ⟨sd, 2, none⟩ = some (.pointer (some ⟨rb, 0, none⟩)))) (by kernel_rfl) ⟨h0.1.1, h0.1.2.2.1⟩ (fun hHeld => ?_); simp only [List.size_toArray, List.length_cons, List.length_nil, Nat.reduceAdd, Array.replicate_succ, Array.replicate_zero, List.push_toArray, List.append_toArray, List.nil_append, List.cons_append])
  refine rgT 0 (h := ?_)
  refine rgT 1 (h := ?_)
  refine rgT 2 (h := ?_)
  refine rgT 3 (h := ?_)
  refine rgT 5 (h := ?_)
  refine rgT 6 (h := ?_)
  refine rgT 7 (h := ?_)
  refine rgT 8 (h := ?_)
  (refine rgS 4 (h := fun K hK => ?_); go_simp)
  obtain ⟨qv, ev, en, m⟩ := (HQ.out (opW w 6 wh tg nn (.slice pa pn pc) (.slice ma mn mc)).drew (Keeps.refl _ _).drew).q.m
  refine (hidle_any m).mono ?_
  rintro e w1 ⟨rfl, rfl⟩
  rw [HV.out]
  clear m
  (refine hK.out _ _ ⟨h0.1.1, h0.1.2.2.1⟩ (fun hHeld => ?_); clear hK K; try simp only [Act.put, List.setIfInBounds_toArray, List.set_cons_zero, List.set_cons_succ])
  (refine rgS 9 (h := fun K hK => ?_); go_simp)
  obtain ⟨uv, uev, uen, n⟩ := (HQ.out (opW w 6 wh tg nn (.slice pa pn pc) (.slice ma mn mc)).drew (Keeps.refl _ _).drew).q.n
  refine (ridle_any n).mono ?_
  rintro e w1 ⟨rfl, rfl⟩
  rw [HV.out]
  clear n
  (refine hK.out _ _ ⟨h0.1.1, h0.1.2.2.1⟩ (fun hHeld => ?_); clear hK K; try simp only [Act.put, List.setIfInBounds_toArray, List.set_cons_zero, List.set_cons_succ])
  refine rgT 10 (h := ?_)
  refine rgT 11 (h := ?_)
  refine wpAnyH_done (by kernel_rfl) ?_ _
  have HY := HX.out (opW w 6 wh tg nn (.slice pa pn pc) (.slice ma mn mc)).drew (Keeps.refl _ _).drew
  clear h0
  go_wp2
  go_ret
  exact ⟨rfl, HX.out _ (Keeps.refl _ _).drew⟩
/-- The steps. -/
theorem lk_steps (w : World) (G H P Q : Nat → Prop) (B : Bd) (bb b1 b2 : Nat) (tv : Value) (R : Rd) (r1 r2 hb qb rb sb sd : Nat) (a0 : Hp) (a : Hp × Ls) (ts : List (List I8)) (wd c nw : Nat) (p : PSt w G H P Q B bb b1 b2 tv R r1 r2 hb qb rb sb sd a0 a ts wd c nw) (wh tg nn : Int) (pa : Option Addr) (pn pc : Nat) (ma : Option Addr) (mn mc : Nat) :
    Calls Tryz.prog 36 #[.pointer (some ⟨sd, 0, none⟩), .agg (opC 7 wh tg nn (.slice pa pn pc) (.slice ma mn mc))] w fun e w' => e = .returned (.bool true) ∧ MvP w G H P Q B bb b1 b2 tv R r1 r2 hb qb rb sb sd a0 ts wd c nw w' := by
  have HS : Hid (∀ W, Keeps (fun _ => False) (opW w 7 wh tg nn (.slice pa pn pc) (.slice ma mn mc)) W → (W.cell? ⟨sd, 0, none⟩ = some (.pointer (some ⟨hb, 0, none⟩)) ∧ W.cell? ⟨sd, 1, none⟩ = some (.pointer (some ⟨bb, 0, none⟩)) ∧ W.cell? ⟨sd, 2, none⟩ = some (.pointer (some ⟨rb, 0, none⟩)) ∧ W.cell? ⟨sd, 3, none⟩ = some (.pointer (some ⟨R.bk, 0, none⟩))) ∧ W.cell? ⟨w.heap.size, 1, none⟩ = some (.int .i64 wh)) := fun W k => by
    have h := p.cells 7 wh tg nn (.slice pa pn pc) (.slice ma mn mc) W (fun _ => False) k (fun _ e => e.elim)
    exact ⟨h.1, h.2.1⟩
  have HQ : Hid (∀ W, Keeps (fun _ => False) (opW w 7 wh tg nn (.slice pa pn pc) (.slice ma mn mc)) W → PSt W G H P Q B bb b1 b2 tv R r1 r2 hb qb rb sb sd a0 a ts wd c nw) := fun W k => p.still (((Keeps.refl _ _).alloc _).trans k)
  have HX : Hid (∀ W, Keeps (fun _ => False) (opW w 7 wh tg nn (.slice pa pn pc) (.slice ma mn mc)) W → MvP w G H P Q B bb b1 b2 tv R r1 r2 hb qb rb sb sd a0 ts wd c nw W) := fun W k => (p.still (((Keeps.refl _ _).alloc _).trans k)).mv (((Keeps.refl _ _).alloc _).trans k)
  have h0 := HS.out (opW w 7 wh tg nn (.slice pa pn pc) (.slice ma mn mc)).drew (Keeps.refl _ _).drew
  obtain ⟨val, hval⟩ : ∃ val, a.1.st = val := ⟨_, rfl⟩
  have HV : Hid (a.1.st = val) := hval
  clear p hval
  go_enter Tryz.func36, Tryz.ntmps36
  go_wp2_with fail
  (refine wp_region_held_drew (S := (fun W => W.cell? ⟨sd, 0, none⟩ = some (.pointer (some ⟨hb, 0, none⟩)) ∧ W.cell? ⟨sd, 2, none⟩ = some (.pointer (some ⟨rb, 0, none⟩)))) (by kernel_rfl) ⟨h0.1.1, h0.1.2.2.1⟩ (fun hHeld => ?_); simp only [List.size_toArray, List.length_cons, List.length_nil, Nat.reduceAdd, Array.replicate_succ, Array.replicate_zero, List.push_toArray, List.append_toArray, List.nil_append, List.cons_append])
  refine rgT 0 (h := ?_)
  refine rgT 1 (h := ?_)
  refine rgT 2 (h := ?_)
  refine rgT 3 (h := ?_)
  refine rgT 5 (h := ?_)
  refine rgT 6 (h := ?_)
  refine rgT 7 (h := ?_)
  refine rgT 8 (h := ?_)
  (refine rgS 4 (h := fun K hK => ?_); go_simp)
  obtain ⟨qv, ev, en, m⟩ := (HQ.out (opW w 7 wh tg nn (.slice pa pn pc) (.slice ma mn mc)).drew (Keeps.refl _ _).drew).q.m
  refine (hsteps _ _ _ _ _ _ _ _ _ m).mono ?_
  rintro e w1 ⟨rfl, rfl⟩
  rw [HV.out]
  clear m
  (refine hK.out _ _ ⟨h0.1.1, h0.1.2.2.1⟩ (fun hHeld => ?_); clear hK K; try simp only [Act.put, List.setIfInBounds_toArray, List.set_cons_zero, List.set_cons_succ])
  (refine rgS 9 (h := fun K hK => ?_); go_simp)
  obtain ⟨uv, uev, uen, n⟩ := (HQ.out (opW w 7 wh tg nn (.slice pa pn pc) (.slice ma mn mc)).drew (Keeps.refl _ _).drew).q.n
  refine (rsteps _ _ _ _ _ _ _ _ _ n).mono ?_
  rintro e w1 ⟨rfl, rfl⟩
  rw [HV.out]
  clear n
  (refine hK.out _ _ ⟨h0.1.1, h0.1.2.2.1⟩ (fun hHeld => ?_); clear hK K; try simp only [Act.put, List.setIfInBounds_toArray, List.set_cons_zero, List.set_cons_succ])
  refine rgT 10 (h := ?_)
  refine rgT 11 (h := ?_)
  refine wpAnyH_done (by kernel_rfl) ?_ _
  have HY := HX.out (opW w 7 wh tg nn (.slice pa pn pc) (.slice ma mn mc)).drew (Keeps.refl _ _).drew
  clear h0
  go_wp2
  go_ret
  exact ⟨rfl, HX.out _ (Keeps.refl _ _).drew⟩
/-- A kind that looks at nothing. -/
theorem lk_none (w : World) (G H P Q : Nat → Prop) (B : Bd) (bb b1 b2 : Nat) (tv : Value) (R : Rd) (r1 r2 hb qb rb sb sd : Nat) (a0 : Hp) (a : Hp × Ls) (ts : List (List I8)) (wd c nw : Nat) (p : PSt w G H P Q B bb b1 b2 tv R r1 r2 hb qb rb sb sd a0 a ts wd c nw) (kd : Int) (wh tg nn : Int) (pa : Option Addr) (pn pc : Nat) (ma : Option Addr) (mn mc : Nat) (n5 : ¬ kd = 5) (n6 : ¬ kd = 6) (n7 : ¬ kd = 7) (n8 : ¬ kd = 8) (n9 : ¬ kd = 9) (n11 : ¬ kd = 11) (n12 : ¬ kd = 12) :
    Calls Tryz.prog 36 #[.pointer (some ⟨sd, 0, none⟩), .agg (opC kd wh tg nn (.slice pa pn pc) (.slice ma mn mc))] w fun e w' => e = .returned (.bool true) ∧ MvP w G H P Q B bb b1 b2 tv R r1 r2 hb qb rb sb sd a0 ts wd c nw w' := by
  have HX : Hid (MvP w G H P Q B bb b1 b2 tv R r1 r2 hb qb rb sb sd a0 ts wd c nw (opW w kd wh tg nn (.slice pa pn pc) (.slice ma mn mc))) := (p.still ((Keeps.refl _ _).alloc _)).mv ((Keeps.refl _ _).alloc _)
  clear p
  go_enter Tryz.func36, Tryz.ntmps36
  go_wp2
  go_ret
  exact ⟨rfl, HX.out⟩
end Go.Proofs.YtdpebhdjcgiboaaGreat

namespace Go.Proofs.YtdpebhdjcgiboaaGreat
set_option linter.unusedSimpArgs false
open Go.ChangeShapes Go.WideShapes Go.ChangeAt Go.RowKit Go.MuLone Go.RwLone
set_option linter.unusedVariables false
set_option maxRecDepth 100000
set_option maxHeartbeats 6400000
/-- One event stored into a row of one's own. -/
theorem owE_set {w : World} {B g n c : Nat} {xs : List Ev4} (h : OwE w B (.slice (some ⟨g, 0, none⟩) n c) xs) (j : Nat) (hj : j < xs.length) (x : Ev4) :
    OwE ((((w.setCell ⟨g, j * 4, none⟩ (.int .i64 x.1)).setCell ⟨g, j * 4 + 1, none⟩ (.int .i64 x.2.1)).setCell ⟨g, j * 4 + 2, none⟩ (.int .i64 x.2.2.1)).setCell ⟨g, j * 4 + 3, none⟩ (.int .i64 x.2.2.2)) B (.slice (some ⟨g, 0, none⟩) n c) (xs.set j x) := by
  have hnx := (owG_cap h).1
  subst hnx
  have h1 := (World.ownsRow.stored h (j * 4) (.int .i64 x.1)).1
  have h2 := (World.ownsRow.stored h1 (j * 4 + 1) (.int .i64 x.2.1)).1
  have h3 := (World.ownsRow.stored h2 (j * 4 + 2) (.int .i64 x.2.2.1)).1
  have h4 := (World.ownsRow.stored h3 (j * 4 + 3) (.int .i64 x.2.2.2)).1
  have e : (xs.set j x).flatMap evC = ((((xs.flatMap evC).set (j * 4) (.int .i64 x.1)).set (j * 4 + 1) (.int .i64 x.2.1)).set (j * 4 + 2) (.int .i64 x.2.2.1)).set (j * 4 + 3) (.int .i64 x.2.2.2) := by
    apply List.ext_getElem?
    intro k
    have hl : (xs.flatMap evC).length = xs.length * 4 := flat_len evC 4 (fun _ => rfl) xs
    have hl2 : ((xs.set j x).flatMap evC).length = xs.length * 4 := by rw [flat_len evC 4 (fun _ => rfl), List.length_set]
    rcases Nat.lt_or_ge k (xs.length * 4) with hk | hk
    · have hi : k / 4 < xs.length := by omega
      have hr : k % 4 < 4 := Nat.mod_lt _ (by decide)
      have ek : k = k / 4 * 4 + k % 4 := by omega
      have l1 : ((xs.set j x).flatMap evC)[k]? = (evC ((xs.set j x)[k / 4]'(by simpa using hi)))[k % 4]? := by
        conv => lhs; rw [ek]
        exact flat_get evC 4 (fun _ => rfl) (xs.set j x) (k / 4) (by simpa using hi) (k % 4) hr
      have l2 : (xs.flatMap evC)[k]? = (evC xs[k / 4])[k % 4]? := by
        conv => lhs; rw [ek]
        exact flat_get evC 4 (fun _ => rfl) xs (k / 4) hi (k % 4) hr
      rw [l1]
      simp only [List.getElem?_set, List.length_set, hl]
      by_cases ej : k / 4 = j
      · have hx : (xs.set j x)[k / 4]'(by simpa using hi) = x := by simp [ej]
        rw [hx]
        have : k % 4 = 0 ∨ k % 4 = 1 ∨ k % 4 = 2 ∨ k % 4 = 3 := by omega
        rcases this with r | r | r | r
        all_goals
          have hkk : k = j * 4 + k % 4 := by omega
          rw [r] at hkk ⊢
          subst hkk
          repeat' split
          all_goals first | rfl | omega
      · have hx : (xs.set j x)[k / 4]'(by simpa using hi) = xs[k / 4] := by simp [Ne.symm ej]
        rw [hx]
        repeat' split
        all_goals first | omega | exact l2.symm
    · rw [List.getElem?_eq_none (by omega), List.getElem?_eq_none (by simp only [List.length_set]; omega)]
  show World.ownsRow _ _ _ _ _ _ _
  rw [e, List.length_set]
  exact h4
/-- A list of events that is written full, and grown. -/
theorem evented_any (w : World) (v : Value) (xs : List Ev4) (h : OwE w 0 v xs) (hn : xs.length ≤ 68719476000) :
    Calls Tryz.prog 75 #[v] w fun e w' => e = .returned (.tuple #[]) ∧ Keeps (fun x => v.ownBlock = some x) w w' := by
  obtain ⟨a, c, rfl⟩ := h.form
  obtain ⟨n, hnn⟩ : ∃ n, xs.length = n := ⟨_, rfl⟩
  have H : Hid (OwE w 0 (.slice a n c) xs ∧ xs.length = n) := ⟨by rw [← hnn]; exact h, hnn⟩
  rw [hnn]
  rw [hnn] at hn
  clear h hnn
  go_enter Tryz.func75, Tryz.ntmps75
  go_wp2_with fail
  go_loopw [2] (fun d wr => ∃ (t : Nat) (ys : List Ev4), d = .int .i64 t ∧ t ≤ n ∧ ys.length = n ∧ OwE wr 0 (.slice a n c) ys ∧ Keeps (fun x => (Value.slice a n c).ownBlock = some x) w wr) (fun d _ => n - (intOf d).toNat)
  case atStart => exact ⟨0, xs, rfl, by omega, H.out.2, H.out.1, Keeps.refl _ _⟩
  case round =>
    obtain ⟨t, ys, rfl, ht, hyl, how, hk⟩ := hrel
    have HQ : Hid (OwE wr 0 (.slice a n c) ys ∧ ys.length = n ∧ Keeps (fun x => (Value.slice a n c).ownBlock = some x) w wr) := ⟨how, hyl, hk⟩
    clear H hk
    by_cases h5 : t < n
    · have t0 : (0 : Int) ≤ (t : Int) := Int.natCast_nonneg _
      have t1 : (t : Int) < (n : Int) := by omega
      obtain ⟨g, cap, e, -, hgl⟩ := owG_some how (by intro e; rw [e] at hyl; simp at hyl; omega)
      injection e with e e2 e3
      clear e2 e3
      subst e
      obtain ⟨y, hy⟩ : ∃ y, IntKind.i64.wrap (-(t : Int)) = y := ⟨_, rfl⟩
      have hy2 : IntKind.i64.wrap (-(t : Int)) = -(t : Int) := by rw [IntKind.wrap_i64]; omega
      have hz2 := owE_set how t (by omega) (9, (t : Int), -3, -(t : Int))
      have how' : wr.ownsRow 0 36 4 (.slice (some ⟨g, 0, none⟩) ys.length c) ys.length (ys.flatMap evC) := by
        have := how
        rw [← hyl] at this
        exact this
      have cz : ∀ k, k < 4 → ∃ u, wr.cell? ⟨g, t * 4 + k, none⟩ = some u := fun k hk => ⟨_, (World.ownsRow.cellAt how' (t * 4 + k) (by omega)).trans (List.getElem?_eq_getElem (by rw [flat_len evC 4 (fun _ => rfl)]; omega))⟩
      have fz : ∀ k, wr.frozen? ⟨g, t * 4 + k, none⟩ = false := fun k => World.ownsRow.frozenAt how' (t * 4 + k)
      obtain ⟨u0, c0⟩ := cz 0 (by decide)
      obtain ⟨u1, c1⟩ := cz 1 (by decide)
      obtain ⟨u2, c2⟩ := cz 2 (by decide)
      obtain ⟨u3, c3⟩ := cz 3 (by decide)
      have f0 := fz 0
      have f1 := fz 1
      have f2 := fz 2
      have f3 := fz 3
      rw [Nat.add_zero] at c0 f0
      have HN : Hid (OwE ((((wr.setCell ⟨g, t * 4, none⟩ (.int .i64 9)).setCell ⟨g, t * 4 + 1, none⟩ (.int .i64 (t : Int))).setCell ⟨g, t * 4 + 2, none⟩ (.int .i64 (-3))).setCell ⟨g, t * 4 + 3, none⟩ (.int .i64 (-(t : Int)))) 0 (.slice (some ⟨g, 0, none⟩) n c) (ys.set t (9, (t : Int), -3, -(t : Int))) ∧ (ys.set t (9, (t : Int), -3, -(t : Int))).length = n ∧ Keeps (fun x => (Value.slice (some ⟨g, 0, none⟩) n c).ownBlock = some x) w ((((wr.setCell ⟨g, t * 4, none⟩ (.int .i64 9)).setCell ⟨g, t * 4 + 1, none⟩ (.int .i64 (t : Int))).setCell ⟨g, t * 4 + 2, none⟩ (.int .i64 (-3))).setCell ⟨g, t * 4 + 3, none⟩ (.int .i64 (-(t : Int))))) := ⟨hz2, by rw [List.length_set]; exact hyl, (((HQ.out.2.2.setCell (p := ⟨g, t * 4, none⟩) rfl _).setCell (p := ⟨g, t * 4 + 1, none⟩) rfl _).setCell (p := ⟨g, t * 4 + 2, none⟩) rfl _).setCell (p := ⟨g, t * 4 + 3, none⟩) rfl _⟩
      clear how' cz fz hy
      clear how hyl hz2 hgl
      go_wp2
      go_roundw
      case rel => exact ⟨t + 1, _, by go_num, by omega, HN.out.2.1, HN.out.1, HN.out.2.2⟩
      case measure => simp [intOf]; omega
    · clear how hyl
      go_wp2_with fail
      go_loopw [0, 3] (fun v d wr => ∃ (t : Nat) (v' : Value) (ys : List Ev4), v' = v ∧ d = .int .i64 t ∧ t ≤ 40 ∧ ys.length ≤ n + t ∧ OwE wr 0 v' ys ∧ Keeps (fun x => (Value.slice a n c).ownBlock = some x) w wr ∧ (∀ g, v'.ownBlock = some g → (Value.slice a n c).ownBlock = some g ∨ w.heap.size ≤ g)) (fun _ d _ => 40 - (intOf d).toNat)
      case atStart => exact ⟨0, _, ys, rfl, rfl, by omega, by have := HQ.out.2.1; omega, HQ.out.1, HQ.out.2.2, fun g hg => .inl hg⟩
      case round =>
        obtain ⟨u, v', zs, rfl, rfl, hu, hzl, how, hk, hob⟩ := hrel
        obtain ⟨va, vc, rfl⟩ := how.form
        have HQ2 : Hid (OwE wr 0 (.slice va zs.length vc) zs ∧ Keeps (fun x => (Value.slice a n c).ownBlock = some x) w wr ∧ (∀ g, (Value.slice va zs.length vc).ownBlock = some g → (Value.slice a n c).ownBlock = some g ∨ w.heap.size ≤ g)) := ⟨how, hk, hob⟩
        clear how hk hob HQ
        by_cases h6 : u < 40
        · have u0 : (0 : Int) ≤ (u : Int) := Int.natCast_nonneg _
          have u1 : (u : Int) < 40 := by omega
          go_wp2_with (at_builtin; refine hideG ?_)
          change wpList _ _ _ _ _ _
          refine app_lies (cs := evC) (wr := wr) (by rfl) _ _ 33 36 (by rfl) Tryz.underlying33 infoEv4 rfl (by decide) (fun _ => rfl) _ zs (8, 0, 0, 0) HQ2.out.1 (by rfl) wr.heap.size rfl (by rfl) (ev_one _) _ rfl (by unfold maxLen; omega) (by omega) ?_
          intro b k w3 ho3 hk3 hb3 hl3
          have HN : Hid (OwE w3 0 (.slice (some ⟨b, 0, none⟩) (zs.length + 1) k) (zs ++ [(8, 0, 0, 0)]) ∧ Keeps (fun x => (Value.slice a n c).ownBlock = some x) w w3 ∧ (∀ g, (Value.slice (some ⟨b, 0, none⟩) (zs.length + 1) k).ownBlock = some g → (Value.slice a n c).ownBlock = some g ∨ w.heap.size ≤ g)) := by
            have hs := HQ2.out.2.1.size
            refine ⟨ho3, ?_, fun g hg => ?_⟩
            · exact ⟨hk3.os.trans HQ2.out.2.1.os, hk3.tape.trans HQ2.out.2.1.tape, hk3.output.trans HQ2.out.2.1.output, Nat.le_trans hs hk3.size, fun x hx hn => (hk3.block x (by omega) (fun e => (HQ2.out.2.2 x e).elim hn (fun e => by omega))).trans (HQ2.out.2.1.block x hx hn)⟩
            · obtain rfl : b = g := Option.some.inj hg
              rcases hb3 with e | e
              · exact HQ2.out.2.2 b e
              · right; omega
          have hln : (zs ++ [(8, 0, 0, 0)]).length ≤ n + (u + 1) := by simp; omega
          clear ho3 hk3 hb3 hl3 HQ2
          generalize zs ++ [(8, 0, 0, 0)] = us at *
          go_wp2
          go_roundw
          case rel => exact ⟨u + 1, _, us, rfl, by go_num, by omega, hln, HN.out⟩
          case measure => simp [intOf]; omega
        · go_wp2
          refine ⟨rfl, .tuple #[], by simp [results, Tryz.results75], rfl, ?_⟩
          exact HQ2.out.2.1
end Go.Proofs.YtdpebhdjcgiboaaGreat
