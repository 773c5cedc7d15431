import Derived.Test.YteekompojgbkhaaGreatKRowE
import Derived.Laws.EntriesVeiled
namespace Go.Proofs.YteekompojgbkhaaGreat
set_option linter.unusedSimpArgs false
open Go.ChangeShapes Go.WideShapes Go.ChangeAt Go.RowKit Go.MuLone Go.RwLone
set_option linter.unusedVariables false
set_option maxRecDepth 100000
set_option maxHeartbeats 3200000
def inB (x : XS) (b : Int) : Bool := decide (0 ≤ b) && decide (b < (x.nb : Int))
theorem inB_yes {x : XS} {b : Int} (h : inB x b = true) : ∃ k : Nat, k < x.nb ∧ b = (k : Int) := by
  unfold inB at h
  rw [Bool.and_eq_true, decide_eq_true_eq, decide_eq_true_eq] at h
  exact ⟨b.toNat, by omega, by omega⟩
theorem inB_of (x : XS) (k : Nat) (h : k < x.nb) : inB x (k : Int) = true := by
  unfold inB
  rw [decide_eq_true (by omega), decide_eq_true (by omega)]
  rfl
theorem ix_has (w : World) (ab : Nat) (X : XL) (x : XS) (b : Int) (h : IxH w ab X x) : Calls Tryz.prog 80 #[.pointer (some ⟨X.x, 0, none⟩), .int .i64 b] w fun e w' => e = .returned (.bool (inB x b)) ∧ w' = w := by
  have c2 := h.c2
  clear h
  by_cases h0 : 0 ≤ b
  · by_cases h1 : b < (x.nb : Int)
    · have e : inB x b = true := by unfold inB; rw [decide_eq_true h0, decide_eq_true h1]; rfl
      rw [e]
      clear e
      go_enter Tryz.func80, Tryz.ntmps80
      go_wp2
      go_ret
      exact ⟨rfl, rfl⟩
    · have e : inB x b = false := by unfold inB; rw [decide_eq_true h0, decide_eq_false h1]; rfl
      rw [e]
      clear e
      go_enter Tryz.func80, Tryz.ntmps80
      go_wp2
      go_ret
      exact ⟨rfl, rfl⟩
  · have e : inB x b = false := by unfold inB; rw [decide_eq_false h0]; rfl
    rw [e]
    clear e
    go_enter Tryz.func80, Tryz.ntmps80
    go_wp2
    go_ret
    exact ⟨rfl, rfl⟩
theorem ix_loadHead (w : World) (ab : Nat) (X : XL) (x : XS) (b : Nat) (hb : b < x.nb) (h : IxH w ab X x) : Calls Tryz.prog 85 #[.pointer (some ⟨X.x, 0, none⟩), .int .i64 (b : Int)] w fun e w' => e = .returned (.int .u64 (x.hd b)) ∧ IxH w' ab X x.cn1 ∧ Keeps X.has w w' := by
  have hz := h.nb.2
  have HA := i64_add ⟨X.x, 3, none⟩ x.cn 1 w h.c3 (h.f _ _ (.inl rfl))
  have HAA : Hid (∀ _ : Unit, _) := fun _ => HA
  have H1 : Hid (IxH (w.setCell ⟨X.x, 3, none⟩ (.int .i64 (wrap64 (x.cn + 1)))) ab X x.cn1 ∧ Keeps X.has w (w.setCell ⟨X.x, 3, none⟩ (.int .i64 (wrap64 (x.cn + 1))))) := ⟨h.setCn _, (Keeps.refl _ _).setCell (p := ⟨X.x, 3, none⟩) (.inl rfl) _⟩
  clear HA h
  have b0 : (0 : Int) ≤ (b : Int) := Int.natCast_nonneg _
  have b1 : (b : Int) < (x.nb : Int) := by omega
  go_enter Tryz.func85, Tryz.ntmps85
  go_wp2_with fail
  refine (HAA.out ()).mono ?_
  rintro e w1 ⟨rfl, rfl⟩
  generalize w.setCell ⟨X.x, 3, none⟩ (.int .i64 (wrap64 (x.cn + 1))) = w1 at *
  have c2 : w1.cell? ⟨X.x, 2, none⟩ = some (.slice (some ⟨X.h, 0, none⟩) x.nb x.nb) := H1.out.1.c2
  have hd : w1.cell? ⟨X.h, b, none⟩ = some (.int .u64 (x.hd b)) := H1.out.1.hd b hb
  clear HAA
  go_wp2_with fail
  refine (u64_load ⟨X.h, b, none⟩ (x.hd b) w1 hd).mono ?_
  rintro e w2 ⟨rfl, rfl⟩
  go_wp2
  go_ret
  exact ⟨rfl, H1.out⟩
theorem ix_swap_hit (w : World) (ab : Nat) (X : XL) (x : XS) (b : Nat) (hb : b < x.nb) (u y : Int) (h : IxH w ab X x) (hu : x.hd b = u) : Calls Tryz.prog 216 #[.pointer (some ⟨X.x, 0, none⟩), .int .i64 (b : Int), .int .u64 u, .int .u64 y] w fun e w' => e = .returned (.bool true) ∧ IxH w' ab X { x.cn1 with hd := upd x.hd b y } ∧ Keeps X.has w w' := by
  have hz := h.nb.2
  have HA := i64_add ⟨X.x, 3, none⟩ x.cn 1 w h.c3 (h.f _ _ (.inl rfl))
  have HAA : Hid (∀ _ : Unit, _) := fun _ => HA
  have H1 : Hid (IxH (w.setCell ⟨X.x, 3, none⟩ (.int .i64 (wrap64 (x.cn + 1)))) ab X x.cn1 ∧ Keeps X.has w (w.setCell ⟨X.x, 3, none⟩ (.int .i64 (wrap64 (x.cn + 1))))) := ⟨h.setCn _, (Keeps.refl _ _).setCell (p := ⟨X.x, 3, none⟩) (.inl rfl) _⟩
  clear HA h
  have b0 : (0 : Int) ≤ (b : Int) := Int.natCast_nonneg _
  have b1 : (b : Int) < (x.nb : Int) := by omega
  go_enter Tryz.func216, Tryz.ntmps216
  go_wp2_with fail
  refine (HAA.out ()).mono ?_
  rintro e w1 ⟨rfl, rfl⟩
  generalize w.setCell ⟨X.x, 3, none⟩ (.int .i64 (wrap64 (x.cn + 1))) = w1 at *
  have c2 : w1.cell? ⟨X.x, 2, none⟩ = some (.slice (some ⟨X.h, 0, none⟩) x.nb x.nb) := H1.out.1.c2
  have hd : w1.cell? ⟨X.h, b, none⟩ = some (.int .u64 u) := by rw [← hu]; exact H1.out.1.hd b hb
  have fz := H1.out.1.f X.h b (.inr rfl)
  have H2 : Hid (IxH (w1.setCell ⟨X.h, b, none⟩ (.int .u64 y)) ab X { x.cn1 with hd := upd x.hd b y } ∧ Keeps X.has w (w1.setCell ⟨X.h, b, none⟩ (.int .u64 y))) := ⟨H1.out.1.setHd b hb y, H1.out.2.setCell (p := ⟨X.h, b, none⟩) (.inr rfl) _⟩
  clear HAA H1 hu
  go_wp2_with fail
  refine (u64_cas_hit ⟨X.h, b, none⟩ u y w1 hd fz).mono ?_
  rintro e w2 ⟨rfl, rfl⟩
  clear hd fz c2
  go_wp2
  go_ret
  exact ⟨rfl, H2.out⟩
theorem ix_swap_miss (w : World) (ab : Nat) (X : XL) (x : XS) (b : Nat) (hb : b < x.nb) (u y : Int) (h : IxH w ab X x) (hu : ¬ x.hd b = u) : Calls Tryz.prog 216 #[.pointer (some ⟨X.x, 0, none⟩), .int .i64 (b : Int), .int .u64 u, .int .u64 y] w fun e w' => e = .returned (.bool false) ∧ IxH w' ab X x.cn1 ∧ Keeps X.has w w' := by
  have hz := h.nb.2
  have HA := i64_add ⟨X.x, 3, none⟩ x.cn 1 w h.c3 (h.f _ _ (.inl rfl))
  have HAA : Hid (∀ _ : Unit, _) := fun _ => HA
  have H1 : Hid (IxH (w.setCell ⟨X.x, 3, none⟩ (.int .i64 (wrap64 (x.cn + 1)))) ab X x.cn1 ∧ Keeps X.has w (w.setCell ⟨X.x, 3, none⟩ (.int .i64 (wrap64 (x.cn + 1))))) := ⟨h.setCn _, (Keeps.refl _ _).setCell (p := ⟨X.x, 3, none⟩) (.inl rfl) _⟩
  clear HA h
  have b0 : (0 : Int) ≤ (b : Int) := Int.natCast_nonneg _
  have b1 : (b : Int) < (x.nb : Int) := by omega
  have HU : Hid (¬ x.hd b = u) := hu
  clear hu
  go_enter Tryz.func216, Tryz.ntmps216
  go_wp2_with fail
  refine (HAA.out ()).mono ?_
  rintro e w1 ⟨rfl, rfl⟩
  generalize w.setCell ⟨X.x, 3, none⟩ (.int .i64 (wrap64 (x.cn + 1))) = w1 at *
  have c2 : w1.cell? ⟨X.x, 2, none⟩ = some (.slice (some ⟨X.h, 0, none⟩) x.nb x.nb) := H1.out.1.c2
  have hd : w1.cell? ⟨X.h, b, none⟩ = some (.int .u64 (x.hd b)) := H1.out.1.hd b hb
  have fz := H1.out.1.f X.h b (.inr rfl)
  clear HAA
  go_wp2_with fail
  refine (u64_cas_miss ⟨X.h, b, none⟩ (x.hd b) u y w1 hd fz HU.out).mono ?_
  rintro e w2 ⟨rfl, rfl⟩
  clear hd fz c2
  go_wp2
  go_ret
  exact ⟨rfl, H1.out⟩
/-- An arena at rest and an index over it. -/
structure CH (w : World) (L : Lay) (Q : List Nat) (S : AS) (X : XL) (x : XS) : Prop where
  a : Arn w L Q S
  i : IxH w L.b X x
  d : ∀ g, X.has g → ¬ L.has g
  c : x.cell < S.wd
def chF (L : Lay) (X : XL) (g : Nat) : Prop := L.has g ∨ X.has g
theorem CH.keeps {w w' : World} {L : Lay} {Q : List Nat} {S : AS} {X : XL} {x : XS} {D : Nat → Prop} (h : CH w L Q S X x) (k : Keeps D w w') (hn : ∀ g, chF L X g → ¬ D g) : CH w' L Q S X x :=
  ⟨h.a.keeps k (fun g hg => hn g (.inl hg)), h.i.keeps k (fun g hg => hn g (.inr hg)), h.d, h.c⟩
theorem CH.drew {w : World} {L : Lay} {Q : List Nat} {S : AS} {X : XL} {x : XS} (h : CH w L Q S X x) : CH w.drew L Q S X x := h.keeps (D := fun _ => False) (Keeps.refl _ _).drew (fun _ _ e => e)
theorem CH.arn {w w' : World} {L : Lay} {Q : List Nat} {S S' : AS} {X : XL} {x : XS} (h : CH w L Q S X x) (ha : Arn w' L Q S') (k : Keeps L.has w w') (hw : S'.wd = S.wd) : CH w' L Q S' X x :=
  ⟨ha, h.i.keeps k (fun g hg => h.d g hg), h.d, by rw [hw]; exact h.c⟩
theorem CH.ix {w w' : World} {L : Lay} {Q : List Nat} {S : AS} {X : XL} {x x' : XS} (h : CH w L Q S X x) (hx : IxH w' L.b X x') (k : Keeps X.has w w') (hc : x'.cell = x.cell) : CH w' L Q S X x' :=
  ⟨h.a.keeps k (fun g hg e => h.d g e hg), hx, h.d, by rw [hc]; exact h.c⟩
theorem CH.lt {w : World} {L : Lay} {Q : List Nat} {S : AS} {X : XL} {x : XS} (h : CH w L Q S X x) : ∀ g, chF L X g → g < w.heap.size := fun g hg => by
  rcases hg with e | e | e
  · exact h.a.h.lt g e
  · rw [e]; exact h.i.lx
  · rw [e]; exact h.i.lh
theorem ix_loadLink (w : World) (L : Lay) (Q : List Nat) (S : AS) (X : XL) (x : XS) (s : Int) (h : CH w L Q S X x) (hs : liv S s = true) : Calls Tryz.prog 88 #[.pointer (some ⟨X.x, 0, none⟩), .int .i64 s] w fun e w' => e = .returned (.tuple #[.int .u64 (S.word (atC S s x.cell)), .int .i64 0]) ∧ CH w' L Q (acc1 S) X x ∧ Keeps (chF L X) w w' := by
  have HD : Hid (CH w.drew L Q S X x) := h.drew
  have sx : w.drew.cell? ⟨X.x, 0, none⟩ = some (.pointer (some ⟨L.b, 0, none⟩)) ∧ w.drew.cell? ⟨X.x, 1, none⟩ = some (.int .i64 (x.cell : Int)) := ⟨HD.out.i.c0, HD.out.i.c1⟩
  obtain ⟨v, hv⟩ : ∃ v, S.word (atC S s x.cell) = v := ⟨_, rfl⟩
  have HL := arn_load L S w.drew Q s x.cell HD.out.a hs HD.out.c
  rw [hv] at HL ⊢
  have HLL : Hid (∀ _ : Unit, _) := fun _ => HL
  have HF : Hid (∀ w', Arn w' L Q (acc1 S) → Keeps L.has w.drew w' → CH w' L Q (acc1 S) X x ∧ Keeps (chF L X) w w') := fun w' ha k => ⟨HD.out.arn ha k rfl, (Keeps.refl _ _).drew.trans (k.mono (fun _ e => .inl e))⟩
  clear HL h hv hs
  go_enter Tryz.func88, Tryz.ntmps88
  go_wp2_with fail
  (refine wp_region_held_drew (S := (fun Z => Z.cell? ⟨X.x, 0, none⟩ = some (.pointer (some ⟨L.b, 0, none⟩)) ∧ Z.cell? ⟨X.x, 1, none⟩ = some (.int .i64 (x.cell : Int)))) (by kernel_rfl) sx (fun hHeld => ?_); simp only [List.size_toArray, List.length_cons, List.length_nil, Nat.reduceAdd, Array.replicate_succ, Array.replicate_zero, List.push_toArray, List.append_toArray, List.nil_append, List.cons_append])
  clear sx
  refine rgT 0 (h := ?_)
  refine rgT 1 (h := ?_)
  refine rgT 2 (h := ?_)
  refine rgT 3 (h := ?_)
  refine rgT 4 (h := ?_)
  refine rgT 5 (h := ?_)
  refine rgT 6 (h := ?_)
  refine rgT 7 (h := ?_)
  refine rgT 8 (h := ?_)
  (refine rgS 9 (h := fun K hK => ?_); go_simp)
  refine (HLL.out ()).mono ?_
  rintro e w1 ⟨rfl, ha, k⟩
  have H1 := HF.out w1 ha k
  have HH : Hid (CH w1 L Q (acc1 S) X x ∧ Keeps (chF L X) w w1) := H1
  clear ha k HLL HF HD
  (refine hK.out _ _ ⟨H1.1.i.c0, H1.1.i.c1⟩ (fun hHeld => ?_); clear hK K; try simp only [Act.put, List.setIfInBounds_toArray, List.set_cons_zero, List.set_cons_succ])
  clear H1
  refine rgT 10 (h := ?_)
  refine rgT 11 (h := ?_)
  refine rgT 12 (h := ?_)
  refine rgT 13 (h := ?_)
  refine wpAnyH_done (by kernel_rfl) ?_ _
  clear hHeld
  clear hHeld
  go_wp2
  go_ret2
  exact ⟨rfl, HH.out⟩
end Go.Proofs.YteekompojgbkhaaGreat

namespace Go.Proofs.YteekompojgbkhaaGreat
set_option linter.unusedSimpArgs false
open Go.ChangeShapes Go.WideShapes Go.ChangeAt Go.RowKit Go.MuLone Go.RwLone
set_option linter.unusedVariables false
set_option maxRecDepth 100000
set_option maxHeartbeats 3200000
theorem ix_loadLink_no (w : World) (L : Lay) (Q : List Nat) (S : AS) (X : XL) (x : XS) (s : Int) (h : CH w L Q S X x) (hs : liv S s = false) : Calls Tryz.prog 88 #[.pointer (some ⟨X.x, 0, none⟩), .int .i64 s] w fun e w' => e = .returned (.tuple #[.int .u64 0, .int .i64 22]) ∧ CH w' L Q (mis1 S) X x ∧ Keeps (chF L X) w w' := by
  have HD : Hid (CH w.drew L Q S X x) := h.drew
  have sx : w.drew.cell? ⟨X.x, 0, none⟩ = some (.pointer (some ⟨L.b, 0, none⟩)) ∧ w.drew.cell? ⟨X.x, 1, none⟩ = some (.int .i64 (x.cell : Int)) := ⟨HD.out.i.c0, HD.out.i.c1⟩
  have HL := arn_load_no L S w.drew Q s (x.cell : Int) HD.out.a hs
  have HLL : Hid (∀ _ : Unit, _) := fun _ => HL
  have HF : Hid (∀ w', Arn w' L Q (mis1 S) → Keeps L.has w.drew w' → CH w' L Q (mis1 S) X x ∧ Keeps (chF L X) w w') := fun w' ha k => ⟨HD.out.arn ha k rfl, (Keeps.refl _ _).drew.trans (k.mono (fun _ e => .inl e))⟩
  clear HL h hs
  go_enter Tryz.func88, Tryz.ntmps88
  go_wp2_with fail
  (refine wp_region_held_drew (S := (fun Z => Z.cell? ⟨X.x, 0, none⟩ = some (.pointer (some ⟨L.b, 0, none⟩)) ∧ Z.cell? ⟨X.x, 1, none⟩ = some (.int .i64 (x.cell : Int)))) (by kernel_rfl) sx (fun hHeld => ?_); simp only [List.size_toArray, List.length_cons, List.length_nil, Nat.reduceAdd, Array.replicate_succ, Array.replicate_zero, List.push_toArray, List.append_toArray, List.nil_append, List.cons_append])
  clear sx
  refine rgT 0 (h := ?_)
  refine rgT 1 (h := ?_)
  refine rgT 2 (h := ?_)
  refine rgT 3 (h := ?_)
  refine rgT 4 (h := ?_)
  refine rgT 5 (h := ?_)
  refine rgT 6 (h := ?_)
  refine rgT 7 (h := ?_)
  refine rgT 8 (h := ?_)
  (refine rgS 9 (h := fun K hK => ?_); go_simp)
  refine (HLL.out ()).mono ?_
  rintro e w1 ⟨rfl, ha, k⟩
  have H1 := HF.out w1 ha k
  have HH : Hid (CH w1 L Q (mis1 S) X x ∧ Keeps (chF L X) w w1) := H1
  clear ha k HLL HF HD
  (refine hK.out _ _ ⟨H1.1.i.c0, H1.1.i.c1⟩ (fun hHeld => ?_); clear hK K; try simp only [Act.put, List.setIfInBounds_toArray, List.set_cons_zero, List.set_cons_succ])
  clear H1
  refine rgT 10 (h := ?_)
  refine rgT 11 (h := ?_)
  refine rgT 12 (h := ?_)
  refine rgT 13 (h := ?_)
  refine wpAnyH_done (by kernel_rfl) ?_ _
  clear hHeld
  clear hHeld
  go_wp2
  go_ret2
  exact ⟨rfl, HH.out⟩
theorem ix_storeLink (w : World) (L : Lay) (Q : List Nat) (S : AS) (X : XL) (x : XS) (s : Int) (y : Int) (h : CH w L Q S X x) (hs : liv S s = true) : Calls Tryz.prog 180 #[.pointer (some ⟨X.x, 0, none⟩), .int .i64 s, .int .u64 y] w fun e w' => e = .returned (.int .i64 0) ∧ CH w' L Q (put1 S (atC S s x.cell) y) X x ∧ Keeps (chF L X) w w' := by
  have HD : Hid (CH w.drew L Q S X x) := h.drew
  have sx : w.drew.cell? ⟨X.x, 0, none⟩ = some (.pointer (some ⟨L.b, 0, none⟩)) ∧ w.drew.cell? ⟨X.x, 1, none⟩ = some (.int .i64 (x.cell : Int)) := ⟨HD.out.i.c0, HD.out.i.c1⟩
  have HL := arn_store L S w.drew Q s x.cell y HD.out.a hs HD.out.c
  have HLL : Hid (∀ _ : Unit, _) := fun _ => HL
  have HF : Hid (∀ w', Arn w' L Q (put1 S (atC S s x.cell) y) → Keeps L.has w.drew w' → CH w' L Q (put1 S (atC S s x.cell) y) X x ∧ Keeps (chF L X) w w') := fun w' ha k => ⟨HD.out.arn ha k rfl, (Keeps.refl _ _).drew.trans (k.mono (fun _ e => .inl e))⟩
  clear HL h hs
  go_enter Tryz.func180, Tryz.ntmps180
  go_wp2_with fail
  (refine wp_region_held_drew (S := (fun Z => Z.cell? ⟨X.x, 0, none⟩ = some (.pointer (some ⟨L.b, 0, none⟩)) ∧ Z.cell? ⟨X.x, 1, none⟩ = some (.int .i64 (x.cell : Int)))) (by kernel_rfl) sx (fun hHeld => ?_); simp only [List.size_toArray, List.length_cons, List.length_nil, Nat.reduceAdd, Array.replicate_succ, Array.replicate_zero, List.push_toArray, List.append_toArray, List.nil_append, List.cons_append])
  clear sx
  refine rgT 0 (h := ?_)
  refine rgT 1 (h := ?_)
  refine rgT 2 (h := ?_)
  refine rgT 3 (h := ?_)
  refine rgT 4 (h := ?_)
  refine rgT 5 (h := ?_)
  refine rgT 6 (h := ?_)
  refine rgT 7 (h := ?_)
  refine rgT 8 (h := ?_)
  refine rgT 9 (h := ?_)
  (refine rgS 10 (h := fun K hK => ?_); go_simp)
  refine (HLL.out ()).mono ?_
  rintro e w1 ⟨rfl, ha, k⟩
  have H1 := HF.out w1 ha k
  have HH : Hid (CH w1 L Q (put1 S (atC S s x.cell) y) X x ∧ Keeps (chF L X) w w1) := H1
  clear ha k HLL HF HD
  (refine hK.out _ _ ⟨H1.1.i.c0, H1.1.i.c1⟩ (fun hHeld => ?_); clear hK K; try simp only [Act.put, List.setIfInBounds_toArray, List.set_cons_zero, List.set_cons_succ])
  clear H1
  refine rgT 11 (h := ?_)
  refine wpAnyH_done (by kernel_rfl) ?_ _
  clear hHeld
  clear hHeld
  go_wp2
  go_ret
  exact ⟨rfl, HH.out⟩
theorem ix_storeLink_no (w : World) (L : Lay) (Q : List Nat) (S : AS) (X : XL) (x : XS) (s : Int) (y : Int) (h : CH w L Q S X x) (hs : liv S s = false) : Calls Tryz.prog 180 #[.pointer (some ⟨X.x, 0, none⟩), .int .i64 s, .int .u64 y] w fun e w' => e = .returned (.int .i64 22) ∧ CH w' L Q (mis1 S) X x ∧ Keeps (chF L X) w w' := by
  have HD : Hid (CH w.drew L Q S X x) := h.drew
  have sx : w.drew.cell? ⟨X.x, 0, none⟩ = some (.pointer (some ⟨L.b, 0, none⟩)) ∧ w.drew.cell? ⟨X.x, 1, none⟩ = some (.int .i64 (x.cell : Int)) := ⟨HD.out.i.c0, HD.out.i.c1⟩
  have HL := arn_store_no L S w.drew Q s (x.cell : Int) y HD.out.a hs
  have HLL : Hid (∀ _ : Unit, _) := fun _ => HL
  have HF : Hid (∀ w', Arn w' L Q (mis1 S) → Keeps L.has w.drew w' → CH w' L Q (mis1 S) X x ∧ Keeps (chF L X) w w') := fun w' ha k => ⟨HD.out.arn ha k rfl, (Keeps.refl _ _).drew.trans (k.mono (fun _ e => .inl e))⟩
  clear HL h hs
  go_enter Tryz.func180, Tryz.ntmps180
  go_wp2_with fail
  (refine wp_region_held_drew (S := (fun Z => Z.cell? ⟨X.x, 0, none⟩ = some (.pointer (some ⟨L.b, 0, none⟩)) ∧ Z.cell? ⟨X.x, 1, none⟩ = some (.int .i64 (x.cell : Int)))) (by kernel_rfl) sx (fun hHeld => ?_); simp only [List.size_toArray, List.length_cons, List.length_nil, Nat.reduceAdd, Array.replicate_succ, Array.replicate_zero, List.push_toArray, List.append_toArray, List.nil_append, List.cons_append])
  clear sx
  refine rgT 0 (h := ?_)
  refine rgT 1 (h := ?_)
  refine rgT 2 (h := ?_)
  refine rgT 3 (h := ?_)
  refine rgT 4 (h := ?_)
  refine rgT 5 (h := ?_)
  refine rgT 6 (h := ?_)
  refine rgT 7 (h := ?_)
  refine rgT 8 (h := ?_)
  refine rgT 9 (h := ?_)
  (refine rgS 10 (h := fun K hK => ?_); go_simp)
  refine (HLL.out ()).mono ?_
  rintro e w1 ⟨rfl, ha, k⟩
  have H1 := HF.out w1 ha k
  have HH : Hid (CH w1 L Q (mis1 S) X x ∧ Keeps (chF L X) w w1) := H1
  clear ha k HLL HF HD
  (refine hK.out _ _ ⟨H1.1.i.c0, H1.1.i.c1⟩ (fun hHeld => ?_); clear hK K; try simp only [Act.put, List.setIfInBounds_toArray, List.set_cons_zero, List.set_cons_succ])
  clear H1
  refine rgT 11 (h := ?_)
  refine wpAnyH_done (by kernel_rfl) ?_ _
  clear hHeld
  clear hHeld
  go_wp2
  go_ret
  exact ⟨rfl, HH.out⟩
theorem ix_swapLink_hit (w : World) (L : Lay) (Q : List Nat) (S : AS) (X : XL) (x : XS) (s : Int) (u y : Int) (h : CH w L Q S X x) (hs : liv S s = true) (hu : S.word (atC S s x.cell) = u) : Calls Tryz.prog 211 #[.pointer (some ⟨X.x, 0, none⟩), .int .i64 s, .int .u64 u, .int .u64 y] w fun e w' => e = .returned (.tuple #[.bool true, .int .i64 0]) ∧ CH w' L Q (put1 S (atC S s x.cell) y) X x ∧ Keeps (chF L X) w w' := by
  have HD : Hid (CH w.drew L Q S X x) := h.drew
  have sx : w.drew.cell? ⟨X.x, 0, none⟩ = some (.pointer (some ⟨L.b, 0, none⟩)) ∧ w.drew.cell? ⟨X.x, 1, none⟩ = some (.int .i64 (x.cell : Int)) := ⟨HD.out.i.c0, HD.out.i.c1⟩
  have HL := arn_cas_hit L S w.drew Q s x.cell u y HD.out.a hs HD.out.c hu
  have HLL : Hid (∀ _ : Unit, _) := fun _ => HL
  have HF : Hid (∀ w', Arn w' L Q (put1 S (atC S s x.cell) y) → Keeps L.has w.drew w' → CH w' L Q (put1 S (atC S s x.cell) y) X x ∧ Keeps (chF L X) w w') := fun w' ha k => ⟨HD.out.arn ha k rfl, (Keeps.refl _ _).drew.trans (k.mono (fun _ e => .inl e))⟩
  clear HL h hs hu
  go_enter Tryz.func211, Tryz.ntmps211
  go_wp2_with fail
  (refine wp_region_held_drew (S := (fun Z => Z.cell? ⟨X.x, 0, none⟩ = some (.pointer (some ⟨L.b, 0, none⟩)) ∧ Z.cell? ⟨X.x, 1, none⟩ = some (.int .i64 (x.cell : Int)))) (by kernel_rfl) sx (fun hHeld => ?_); simp only [List.size_toArray, List.length_cons, List.length_nil, Nat.reduceAdd, Array.replicate_succ, Array.replicate_zero, List.push_toArray, List.append_toArray, List.nil_append, List.cons_append])
  clear sx
  refine rgT 0 (h := ?_)
  refine rgT 1 (h := ?_)
  refine rgT 2 (h := ?_)
  refine rgT 3 (h := ?_)
  refine rgT 4 (h := ?_)
  refine rgT 5 (h := ?_)
  refine rgT 6 (h := ?_)
  refine rgT 7 (h := ?_)
  refine rgT 8 (h := ?_)
  refine rgT 9 (h := ?_)
  refine rgT 10 (h := ?_)
  (refine rgS 11 (h := fun K hK => ?_); go_simp)
  refine (HLL.out ()).mono ?_
  rintro e w1 ⟨rfl, ha, k⟩
  have H1 := HF.out w1 ha k
  have HH : Hid (CH w1 L Q (put1 S (atC S s x.cell) y) X x ∧ Keeps (chF L X) w w1) := H1
  clear ha k HLL HF HD
  (refine hK.out _ _ ⟨H1.1.i.c0, H1.1.i.c1⟩ (fun hHeld => ?_); clear hK K; try simp only [Act.put, List.setIfInBounds_toArray, List.set_cons_zero, List.set_cons_succ])
  clear H1
  refine rgT 12 (h := ?_)
  refine rgT 13 (h := ?_)
  refine rgT 14 (h := ?_)
  refine rgT 15 (h := ?_)
  refine wpAnyH_done (by kernel_rfl) ?_ _
  clear hHeld
  clear hHeld
  go_wp2
  go_ret2
  exact ⟨rfl, HH.out⟩
theorem ix_swapLink_miss (w : World) (L : Lay) (Q : List Nat) (S : AS) (X : XL) (x : XS) (s : Int) (u y : Int) (h : CH w L Q S X x) (hs : liv S s = true) (hu : ¬ S.word (atC S s x.cell) = u) : Calls Tryz.prog 211 #[.pointer (some ⟨X.x, 0, none⟩), .int .i64 s, .int .u64 u, .int .u64 y] w fun e w' => e = .returned (.tuple #[.bool false, .int .i64 0]) ∧ CH w' L Q (acc1 S) X x ∧ Keeps (chF L X) w w' := by
  have HD : Hid (CH w.drew L Q S X x) := h.drew
  have sx : w.drew.cell? ⟨X.x, 0, none⟩ = some (.pointer (some ⟨L.b, 0, none⟩)) ∧ w.drew.cell? ⟨X.x, 1, none⟩ = some (.int .i64 (x.cell : Int)) := ⟨HD.out.i.c0, HD.out.i.c1⟩
  have HL := arn_cas_miss L S w.drew Q s x.cell u y HD.out.a hs HD.out.c hu
  have HLL : Hid (∀ _ : Unit, _) := fun _ => HL
  have HF : Hid (∀ w', Arn w' L Q (acc1 S) → Keeps L.has w.drew w' → CH w' L Q (acc1 S) X x ∧ Keeps (chF L X) w w') := fun w' ha k => ⟨HD.out.arn ha k rfl, (Keeps.refl _ _).drew.trans (k.mono (fun _ e => .inl e))⟩
  clear HL h hs hu
  go_enter Tryz.func211, Tryz.ntmps211
  go_wp2_with fail
  (refine wp_region_held_drew (S := (fun Z => Z.cell? ⟨X.x, 0, none⟩ = some (.pointer (some ⟨L.b, 0, none⟩)) ∧ Z.cell? ⟨X.x, 1, none⟩ = some (.int .i64 (x.cell : Int)))) (by kernel_rfl) sx (fun hHeld => ?_); simp only [List.size_toArray, List.length_cons, List.length_nil, Nat.reduceAdd, Array.replicate_succ, Array.replicate_zero, List.push_toArray, List.append_toArray, List.nil_append, List.cons_append])
  clear sx
  refine rgT 0 (h := ?_)
  refine rgT 1 (h := ?_)
  refine rgT 2 (h := ?_)
  refine rgT 3 (h := ?_)
  refine rgT 4 (h := ?_)
  refine rgT 5 (h := ?_)
  refine rgT 6 (h := ?_)
  refine rgT 7 (h := ?_)
  refine rgT 8 (h := ?_)
  refine rgT 9 (h := ?_)
  refine rgT 10 (h := ?_)
  (refine rgS 11 (h := fun K hK => ?_); go_simp)
  refine (HLL.out ()).mono ?_
  rintro e w1 ⟨rfl, ha, k⟩
  have H1 := HF.out w1 ha k
  have HH : Hid (CH w1 L Q (acc1 S) X x ∧ Keeps (chF L X) w w1) := H1
  clear ha k HLL HF HD
  (refine hK.out _ _ ⟨H1.1.i.c0, H1.1.i.c1⟩ (fun hHeld => ?_); clear hK K; try simp only [Act.put, List.setIfInBounds_toArray, List.set_cons_zero, List.set_cons_succ])
  clear H1
  refine rgT 12 (h := ?_)
  refine rgT 13 (h := ?_)
  refine rgT 14 (h := ?_)
  refine rgT 15 (h := ?_)
  refine wpAnyH_done (by kernel_rfl) ?_ _
  clear hHeld
  clear hHeld
  go_wp2
  go_ret2
  exact ⟨rfl, HH.out⟩
theorem ix_swapLink_no (w : World) (L : Lay) (Q : List Nat) (S : AS) (X : XL) (x : XS) (s : Int) (u y : Int) (h : CH w L Q S X x) (hs : liv S s = false) : Calls Tryz.prog 211 #[.pointer (some ⟨X.x, 0, none⟩), .int .i64 s, .int .u64 u, .int .u64 y] w fun e w' => e = .returned (.tuple #[.bool false, .int .i64 22]) ∧ CH w' L Q (mis1 S) X x ∧ Keeps (chF L X) w w' := by
  have HD : Hid (CH w.drew L Q S X x) := h.drew
  have sx : w.drew.cell? ⟨X.x, 0, none⟩ = some (.pointer (some ⟨L.b, 0, none⟩)) ∧ w.drew.cell? ⟨X.x, 1, none⟩ = some (.int .i64 (x.cell : Int)) := ⟨HD.out.i.c0, HD.out.i.c1⟩
  have HL := arn_cas_no L S w.drew Q s (x.cell : Int) u y HD.out.a hs
  have HLL : Hid (∀ _ : Unit, _) := fun _ => HL
  have HF : Hid (∀ w', Arn w' L Q (mis1 S) → Keeps L.has w.drew w' → CH w' L Q (mis1 S) X x ∧ Keeps (chF L X) w w') := fun w' ha k => ⟨HD.out.arn ha k rfl, (Keeps.refl _ _).drew.trans (k.mono (fun _ e => .inl e))⟩
  clear HL h hs
  go_enter Tryz.func211, Tryz.ntmps211
  go_wp2_with fail
  (refine wp_region_held_drew (S := (fun Z => Z.cell? ⟨X.x, 0, none⟩ = some (.pointer (some ⟨L.b, 0, none⟩)) ∧ Z.cell? ⟨X.x, 1, none⟩ = some (.int .i64 (x.cell : Int)))) (by kernel_rfl) sx (fun hHeld => ?_); simp only [List.size_toArray, List.length_cons, List.length_nil, Nat.reduceAdd, Array.replicate_succ, Array.replicate_zero, List.push_toArray, List.append_toArray, List.nil_append, List.cons_append])
  clear sx
  refine rgT 0 (h := ?_)
  refine rgT 1 (h := ?_)
  refine rgT 2 (h := ?_)
  refine rgT 3 (h := ?_)
  refine rgT 4 (h := ?_)
  refine rgT 5 (h := ?_)
  refine rgT 6 (h := ?_)
  refine rgT 7 (h := ?_)
  refine rgT 8 (h := ?_)
  refine rgT 9 (h := ?_)
  refine rgT 10 (h := ?_)
  (refine rgS 11 (h := fun K hK => ?_); go_simp)
  refine (HLL.out ()).mono ?_
  rintro e w1 ⟨rfl, ha, k⟩
  have H1 := HF.out w1 ha k
  have HH : Hid (CH w1 L Q (mis1 S) X x ∧ Keeps (chF L X) w w1) := H1
  clear ha k HLL HF HD
  (refine hK.out _ _ ⟨H1.1.i.c0, H1.1.i.c1⟩ (fun hHeld => ?_); clear hK K; try simp only [Act.put, List.setIfInBounds_toArray, List.set_cons_zero, List.set_cons_succ])
  clear H1
  refine rgT 12 (h := ?_)
  refine rgT 13 (h := ?_)
  refine rgT 14 (h := ?_)
  refine rgT 15 (h := ?_)
  refine wpAnyH_done (by kernel_rfl) ?_ _
  clear hHeld
  clear hHeld
  go_wp2
  go_ret2
  exact ⟨rfl, HH.out⟩
end Go.Proofs.YteekompojgbkhaaGreat

namespace Go.Proofs.YteekompojgbkhaaGreat
set_option linter.unusedSimpArgs false
open Go.ChangeShapes Go.WideShapes Go.ChangeAt Go.RowKit Go.MuLone Go.RwLone
set_option linter.unusedVariables false
set_option maxRecDepth 100000
set_option maxHeartbeats 3200000
/-- What is to be done next: a method of the machine in block b. -/
abbrev nxV (f b : Nat) : Value := .func (.func f) #[.pointer (some ⟨b, 0, none⟩)] #[]
theorem heapSetC {w : World} {b : Nat} {c : Array Value} {t : TypeId} (h : w.heap[b]? = some (.cells c t)) (j : Nat) (v : Value) : (w.setCell ⟨b, j, none⟩ v).heap[b]? = some (.cells (c.setIfInBounds j v) t) := by
  simp [World.setCell, Array.getElem?_modify, h]
theorem job_done (w : World) (b : Nat) (e : Int) (c : Array Value) (t : TypeId) (u0 u1 : Value) (h : w.heap[b]? = some (.cells c t)) (h0 : c[0]? = some u0) (h1 : c[1]? = some u1) : Calls Tryz.prog 87 #[.pointer (some ⟨b, 0, none⟩), .int .i64 e] w fun r w' => r = .returned (.bool true) ∧ w'.heap[b]? = some (.cells ((c.setIfInBounds 1 (.int .i64 e)).setIfInBounds 0 (nxV 134 b)) t) ∧ Keeps (fun g => g = b) w w' := by
  have c0 : w.cell? ⟨b, 0, none⟩ = some u0 := (cell?_heap h 0).trans h0
  have c1 : w.cell? ⟨b, 1, none⟩ = some u1 := (cell?_heap h 1).trans h1
  have f0 := frozen?_heap h 0
  have f1 := frozen?_heap h 1
  have HN : Hid (((w.setCell ⟨b, 1, none⟩ (.int .i64 e)).setCell ⟨b, 0, none⟩ (nxV 134 b)).heap[b]? = some (.cells ((c.setIfInBounds 1 (.int .i64 e)).setIfInBounds 0 (nxV 134 b)) t) ∧ Keeps (fun g => g = b) w ((w.setCell ⟨b, 1, none⟩ (.int .i64 e)).setCell ⟨b, 0, none⟩ (nxV 134 b))) := ⟨heapSetC (heapSetC h 1 _) 0 _, (Keeps.setCell (B := fun g => g = b) (Keeps.setCell (B := fun g => g = b) (Keeps.refl _ _) rfl _) rfl _)⟩
  clear h h0 h1
  go_enter Tryz.func87, Tryz.ntmps87
  go_wp2
  go_ret
  exact ⟨rfl, HN.out⟩
theorem job_goOn (w : World) (b : Nat) (v : Value) (c : Array Value) (t : TypeId) (u0 : Value) (h : w.heap[b]? = some (.cells c t)) (h0 : c[0]? = some u0) (hv : ∃ f g, v = nxV f g) : Calls Tryz.prog 89 #[.pointer (some ⟨b, 0, none⟩), v] w fun r w' => r = .returned (.bool false) ∧ w'.heap[b]? = some (.cells (c.setIfInBounds 0 v) t) ∧ Keeps (fun g => g = b) w w' := by
  obtain ⟨f, g, rfl⟩ := hv
  have c0 : w.cell? ⟨b, 0, none⟩ = some u0 := (cell?_heap h 0).trans h0
  have f0 := frozen?_heap h 0
  have HN : Hid ((w.setCell ⟨b, 0, none⟩ (nxV f g)).heap[b]? = some (.cells (c.setIfInBounds 0 (nxV f g)) t) ∧ Keeps (fun g => g = b) w (w.setCell ⟨b, 0, none⟩ (nxV f g))) := ⟨heapSetC h 0 _, Keeps.setCell (B := fun g => g = b) (Keeps.refl _ _) rfl _⟩
  clear h h0
  go_enter Tryz.func89, Tryz.ntmps89
  go_wp2
  go_ret
  exact ⟨rfl, HN.out⟩
/-- An Insert, plain; st: the number in the list at which it goes on, less one; 4: done. -/
structure MI where
  st : Nat
  code : Int
  bu : Int
  sl : Int
  hd : Int
  tr : Int
def insF : Nat → Nat
  | 0 => 48
  | 1 => 90
  | 2 => 136
  | 3 => 181
  | _ => 134
abbrev insA (mb xb f : Nat) (co bu sl hd tr : Int) : Array Value := #[nxV f mb, .int .i64 co, .pointer (some ⟨xb, 0, none⟩), .int .i64 bu, .int .i64 sl, .int .u64 hd, .int .i64 tr]
def InsH (w : World) (mb xb : Nat) (m : MI) : Prop := w.heap[mb]? = some (.cells (insA mb xb (insF m.st) m.code m.bu m.sl m.hd m.tr) 106)
/-- What a step of an Insert does. -/
structure CS where
  S : AS
  x : XS
def insP (S : AS) (x : XS) (m : MI) : Bool × CS × MI := match m.st with
  | 0 => if inB x m.bu then (if liv S m.sl then (if S.word (atC S m.sl x.cell) = 0 then (false, ⟨acc1 S, x⟩, { m with st := 1 }) else (true, ⟨acc1 S, x⟩, { m with st := 4, code := 41 })) else (true, ⟨mis1 S, x⟩, { m with st := 4, code := 22 })) else (true, ⟨S, x⟩, { m with st := 4, code := 40 })
  | 1 => (false, ⟨S, x.cn1⟩, { m with st := 2, hd := x.hd m.bu.toNat })
  | 2 => if liv S m.sl then (false, ⟨put1 S (atC S m.sl x.cell) m.hd, x⟩, { m with st := 3 }) else (true, ⟨mis1 S, x⟩, { m with st := 4, code := 22 })
  | 3 => if x.hd m.bu.toNat = m.hd then (true, ⟨S, { x.cn1 with hd := upd x.hd m.bu.toNat (2 * m.sl) }⟩, { m with st := 4, code := 0 }) else (false, ⟨S, x.cn1⟩, { m with st := 1, tr := wrap64 (m.tr + 1) })
  | _ => (true, ⟨S, x⟩, m)
/-- What is known of an Insert that has begun. -/
def insOk (x : XS) (m : MI) : Prop := (1 ≤ m.st → m.st ≤ 3 → inB x m.bu = true ∧ 1 ≤ m.sl ∧ m.sl ≤ 4096)
/-- A step of a machine in block mb. -/
def StpI (w : World) (L : Lay) (Q : List Nat) (X : XL) (mb : Nat) (p : Bool × CS × MI) (e : Ending) (w' : World) : Prop := e = .returned (.bool p.1) ∧ CH w' L Q p.2.1.S X p.2.1.x ∧ InsH w' mb X.x p.2.2 ∧ Keeps (fun g => chF L X g ∨ g = mb) w w'
theorem ins_rest (w : World) (b : Nat) : Calls Tryz.prog 134 #[.pointer (some ⟨b, 0, none⟩)] w fun e w' => e = .returned (.bool true) ∧ w' = w := by
  go_enter Tryz.func134, Tryz.ntmps134
  go_wp2
  go_ret
  exact ⟨rfl, rfl⟩
/-- The machine's block and the others. -/
structure MB (w : World) (L : Lay) (Q : List Nat) (S : AS) (X : XL) (x : XS) (mb : Nat) (c : Array Value) (t : TypeId) : Prop where
  h : CH w L Q S X x
  m : w.heap[mb]? = some (.cells c t)
  n : ¬ chF L X mb
section
variable {w w' : World} {L : Lay} {Q : List Nat} {S S' : AS} {X : XL} {x x' : XS} {mb : Nat} {c c' : Array Value} {t : TypeId}
theorem MB.cell (h : MB w L Q S X x mb c t) (j : Nat) : w.cell? ⟨mb, j, none⟩ = c[j]? := cell?_heap h.m j
theorem MB.fz (h : MB w L Q S X x mb c t) (j : Nat) : w.frozen? ⟨mb, j, none⟩ = false := frozen?_heap h.m j
theorem MB.drew (h : MB w L Q S X x mb c t) : MB w.drew L Q S X x mb c t := ⟨h.h.drew, h.m, h.n⟩
/-- A call that touches arena and index alone. -/
theorem MB.call (h : MB w L Q S X x mb c t) (hc : CH w' L Q S' X x') (k : Keeps (chF L X) w w') : MB w' L Q S' X x' mb c t := ⟨hc, (k.block mb (Array.getElem?_eq_some_iff.1 h.m).1 h.n).trans h.m, h.n⟩
theorem MB.callX (h : MB w L Q S X x mb c t) (hx : IxH w' L.b X x') (k : Keeps X.has w w') (hc : x'.cell = x.cell) : MB w' L Q S X x' mb c t := h.call (h.h.ix hx k hc) (k.mono (fun _ e => .inr e))
/-- A call that touches the machine alone. -/
theorem MB.own (h : MB w L Q S X x mb c t) (hm : w'.heap[mb]? = some (.cells c' t)) (k : Keeps (fun g => g = mb) w w') : MB w' L Q S X x mb c' t := ⟨h.h.keeps k (fun g hg e => h.n (by rw [← e]; exact hg)), hm, h.n⟩
theorem MB.set (h : MB w L Q S X x mb c t) (j : Nat) (v : Value) : MB (w.setCell ⟨mb, j, none⟩ v) L Q S X x mb (c.setIfInBounds j v) t ∧ Keeps (fun g => g = mb) w (w.setCell ⟨mb, j, none⟩ v) := by
  have k : Keeps (fun g => g = mb) w (w.setCell ⟨mb, j, none⟩ v) := Keeps.setCell (B := fun g => g = mb) (Keeps.refl _ _) rfl _
  exact ⟨h.own (heapSetC h.m j v) k, k⟩
end
abbrev mkF (L : Lay) (X : XL) (mb g : Nat) : Prop := chF L X g ∨ g = mb
theorem kF {w w' : World} {L : Lay} {X : XL} {mb : Nat} (k : Keeps (chF L X) w w') : Keeps (mkF L X mb) w w' := k.mono (fun _ e => .inl e)
theorem kX {w w' : World} {L : Lay} {X : XL} {mb : Nat} (k : Keeps X.has w w') : Keeps (mkF L X mb) w w' := k.mono (fun _ e => .inl (.inr e))
theorem kM {w w' : World} {L : Lay} {X : XL} {mb : Nat} (k : Keeps (fun g => g = mb) w w') : Keeps (mkF L X mb) w w' := k.mono (fun _ e => .inr e)
theorem ins_loadHead (w : World) (L : Lay) (Q : List Nat) (S : AS) (X : XL) (x : XS) (mb : Nat) (m : MI) (h : CH w L Q S X x) (hm : InsH w mb X.x m) (hn : ¬ chF L X mb) (hs : m.st = 1) (hb : inB x m.bu = true) : Calls Tryz.prog 90 #[.pointer (some ⟨mb, 0, none⟩)] w (StpI w L Q X mb (insP S x m)) := by
  obtain ⟨st, co, bu, sl, hd, tr⟩ := m
  obtain rfl : st = 1 := hs
  obtain ⟨b, hb1, hbb⟩ := inB_yes hb
  obtain rfl : bu = (b : Int) := hbb
  have H0 : MB w L Q S X x mb (insA mb X.x 90 co (b : Int) sl hd tr) 106 := ⟨h, hm, hn⟩
  have e1 : insP S x ⟨1, co, (b : Int), sl, hd, tr⟩ = (false, ⟨S, x.cn1⟩, ⟨2, co, (b : Int), sl, x.hd b, tr⟩) := rfl
  rw [e1]
  have HD : Hid (MB w.drew L Q S X x mb (insA mb X.x 90 co (b : Int) sl hd tr) 106) := H0.drew
  have sx : w.drew.cell? ⟨mb, 2, none⟩ = some (.pointer (some ⟨X.x, 0, none⟩)) ∧ w.drew.cell? ⟨mb, 3, none⟩ = some (.int .i64 (b : Int)) := ⟨(HD.out.cell 2).trans rfl, (HD.out.cell 3).trans rfl⟩
  clear h hm hn hb H0 e1
  go_enter Tryz.func90, Tryz.ntmps90
  go_wp2_with fail
  (refine wp_region_held_drew (S := (fun Z => Z.cell? ⟨mb, 2, none⟩ = some (.pointer (some ⟨X.x, 0, none⟩)) ∧ Z.cell? ⟨mb, 3, none⟩ = some (.int .i64 (b : Int)))) (by kernel_rfl) sx (fun hHeld => ?_); simp only [List.size_toArray, List.length_cons, List.length_nil, Nat.reduceAdd, Array.replicate_succ, Array.replicate_zero, List.push_toArray, List.append_toArray, List.nil_append, List.cons_append])
  clear sx
  refine rgT 0 (h := ?_)
  refine rgT 1 (h := ?_)
  refine rgT 2 (h := ?_)
  refine rgT 3 (h := ?_)
  refine rgT 4 (h := ?_)
  refine rgT 5 (h := ?_)
  refine rgT 6 (h := ?_)
  refine rgT 7 (h := ?_)
  refine rgT 8 (h := ?_)
  (refine rgS 9 (h := fun K hK => ?_); go_simp)
  refine (ix_loadHead w.drew L.b X x b hb1 HD.out.h.i).mono ?_
  rintro e w1 ⟨rfl, hx, k1⟩
  obtain ⟨v, hv⟩ : ∃ v, x.hd b = v := ⟨_, rfl⟩
  have HV : Hid (x.hd b = v) := hv
  rw [hv]
  have H1 : Hid (MB w1 L Q S X x.cn1 mb (insA mb X.x 90 co (b : Int) sl hd tr) 106 ∧ Keeps (mkF L X mb) w w1) := ⟨HD.out.callX hx k1 rfl, (Keeps.refl _ _).drew.trans (kX k1)⟩
  clear hx k1 HD hv
  (refine hK.out _ _ ⟨(H1.out.1.cell 2).trans rfl, (H1.out.1.cell 3).trans rfl⟩ (fun hHeld => ?_); clear hK K; try simp only [Act.put, List.setIfInBounds_toArray, List.set_cons_zero, List.set_cons_succ])
  refine rgT 10 (h := ?_)
  refine rgT 11 (h := ?_)
  have c5 : w1.cell? ⟨mb, 5, none⟩ = some (.int .u64 hd) := (H1.out.1.cell 5).trans rfl
  have f5 := H1.out.1.fz 5
  have H2 : Hid (MB (w1.setCell ⟨mb, 5, none⟩ (.int .u64 v)) L Q S X x.cn1 mb (insA mb X.x 90 co (b : Int) sl v tr) 106 ∧ Keeps (mkF L X mb) w (w1.setCell ⟨mb, 5, none⟩ (.int .u64 v))) := ⟨(H1.out.1.set 5 _).1, H1.out.2.trans (kM (H1.out.1.set 5 _).2)⟩
  (refine rgS 12 (h := fun K hK => ?_); go_simp)
  clear c5 f5 H1
  (refine hK.out _ _ ⟨(H2.out.1.cell 2).trans rfl, (H2.out.1.cell 3).trans rfl⟩ (fun hHeld => ?_); clear hK K; try simp only [Act.put, List.setIfInBounds_toArray, List.set_cons_zero, List.set_cons_succ])
  refine wpAnyH_done (by kernel_rfl) ?_ _
  clear hHeld
  clear hHeld
  clear hHeld
  generalize w1.setCell ⟨mb, 5, none⟩ (.int .u64 v) = w2 at *
  go_wp2_with fail
  refine (job_goOn w2 mb (nxV 136 mb) _ _ _ H2.out.1.m rfl ⟨_, _, rfl⟩).mono ?_
  rintro e w3 ⟨rfl, hm3, k3⟩
  have H3 : Hid (CH w3 L Q S X x.cn1 ∧ InsH w3 mb X.x ⟨2, co, (b : Int), sl, v, tr⟩ ∧ Keeps (mkF L X mb) w w3) := ⟨(H2.out.1.own hm3 k3).h, hm3, H2.out.2.trans (kM k3)⟩
  clear hm3 k3 H2
  go_wp2
  go_ret
  exact ⟨rfl, by rw [HV.out]; exact H3.out⟩
end Go.Proofs.YteekompojgbkhaaGreat

namespace Go.Proofs.YteekompojgbkhaaGreat
open Go.ChangeShapes Go.WideShapes Go.ChangeAt Go.RowKit Go.MuLone Go.RwLone
set_option linter.unusedVariables false
set_option maxRecDepth 100000
set_option maxHeartbeats 3200000
/-- A Walk, plain. st 0: the head is to be loaded, 1: the source's link, 2: the pending one's, 3: it has ended. -/
structure MW where
  st : Nat
  src : Int
  own : Int
  slot : Int
  pend : Int
  ended : Bool
  code : Int
def wlkF : Nat → Nat
  | 0 => 46
  | 1 => 185
  | 2 => 133
  | _ => 177
abbrev wlkA (mb xb f : Nat) (src own slot pend : Int) (ended : Bool) (code : Int) : Array Value := #[.pointer (some ⟨xb, 0, none⟩), nxV f mb, .int .i64 src, .int .i64 own, .int .i64 slot, .int .i64 pend, .bool ended, .int .i64 code]
abbrev wlkC (mb xb : Nat) (m : MW) : Array Value := wlkA mb xb (wlkF m.st) m.src m.own m.slot m.pend m.ended m.code
def WlkH (w : World) (mb xb : Nat) (m : MW) : Prop := w.heap[mb]? = some (.cells (wlkC mb xb m) 94)
def endW (m : MW) (e : Int) : MW := { m with ended := true, code := e, st := 3 }
def failW (m : MW) (e : Int) : MW := endW { m with slot := 0 } e
def lookW (m : MW) (n : Int) : Bool × MW := if n = 0 then (true, failW m 42) else if 4096 < n then (if m.own ≠ 0 ∧ n ≠ m.own then (true, endW m 43) else (true, endW m 0)) else (decide (¬ m.slot = 0), { m with pend := n, st := 2 })
theorem wlk_cells {w : World} {mb xb f : Nat} {src own slot pend code : Int} {ended : Bool} (h : w.heap[mb]? = some (.cells (wlkA mb xb f src own slot pend ended code) 94)) : w.cell? ⟨mb, 0, none⟩ = some (.pointer (some ⟨xb, 0, none⟩)) ∧ w.cell? ⟨mb, 1, none⟩ = some (nxV f mb) ∧ w.cell? ⟨mb, 2, none⟩ = some (.int .i64 src) ∧ w.cell? ⟨mb, 3, none⟩ = some (.int .i64 own) ∧ w.cell? ⟨mb, 4, none⟩ = some (.int .i64 slot) ∧ w.cell? ⟨mb, 5, none⟩ = some (.int .i64 pend) ∧ w.cell? ⟨mb, 6, none⟩ = some (.bool ended) ∧ w.cell? ⟨mb, 7, none⟩ = some (.int .i64 code) := ⟨(cell?_heap h 0).trans rfl, (cell?_heap h 1).trans rfl, (cell?_heap h 2).trans rfl, (cell?_heap h 3).trans rfl, (cell?_heap h 4).trans rfl, (cell?_heap h 5).trans rfl, (cell?_heap h 6).trans rfl, (cell?_heap h 7).trans rfl⟩
theorem setK {w w' : World} {b j : Nat} {v : Value} (k : Keeps (fun g => g = b) w w') : Keeps (fun g => g = b) w (w'.setCell ⟨b, j, none⟩ v) := Keeps.setCell (B := fun g => g = b) k rfl _
theorem wlk_end (w : World) (mb xb f : Nat) (src own slot pend : Int) (ended : Bool) (code : Int) (c : Int) (h : w.heap[mb]? = some (.cells (wlkA mb xb f src own slot pend ended code) 94)) : Calls Tryz.prog 131 #[.pointer (some ⟨mb, 0, none⟩), .int .i64 c] w fun e w' => e = .returned (.bool true) ∧ w'.heap[mb]? = some (.cells (wlkA mb xb 177 src own slot pend true c) 94) ∧ Keeps (fun g => g = mb) w w' := by
  obtain ⟨-, c1, -, -, -, -, c6, c7⟩ := wlk_cells h
  have f1 := frozen?_heap h 1
  have f6 := frozen?_heap h 6
  have f7 := frozen?_heap h 7
  have HN : Hid ((((w.setCell ⟨mb, 6, none⟩ (.bool true)).setCell ⟨mb, 7, none⟩ (.int .i64 c)).setCell ⟨mb, 1, none⟩ (nxV 177 mb)).heap[mb]? = some (.cells (wlkA mb xb 177 src own slot pend true c) 94) ∧ Keeps (fun g => g = mb) w (((w.setCell ⟨mb, 6, none⟩ (.bool true)).setCell ⟨mb, 7, none⟩ (.int .i64 c)).setCell ⟨mb, 1, none⟩ (nxV 177 mb))) := ⟨heapSetC (heapSetC (heapSetC h 6 _) 7 _) 1 _, setK (setK (setK (Keeps.refl _ _)))⟩
  clear h
  go_enter Tryz.func131, Tryz.ntmps131
  go_wp2
  go_ret
  exact ⟨rfl, HN.out⟩
theorem wlk_fail (w : World) (mb xb f : Nat) (src own slot pend : Int) (ended : Bool) (code : Int) (c : Int) (h : w.heap[mb]? = some (.cells (wlkA mb xb f src own slot pend ended code) 94)) : Calls Tryz.prog 84 #[.pointer (some ⟨mb, 0, none⟩), .int .i64 c] w fun e w' => e = .returned (.bool true) ∧ w'.heap[mb]? = some (.cells (wlkA mb xb 177 src own 0 pend true c) 94) ∧ Keeps (fun g => g = mb) w w' := by
  obtain ⟨-, -, -, -, c4, -, -, -⟩ := wlk_cells h
  have f4 := frozen?_heap h 4
  have HN : Hid ((w.setCell ⟨mb, 4, none⟩ (.int .i64 0)).heap[mb]? = some (.cells (wlkA mb xb f src own 0 pend ended code) 94) ∧ Keeps (fun g => g = mb) w (w.setCell ⟨mb, 4, none⟩ (.int .i64 0))) := ⟨heapSetC h 4 _, setK (Keeps.refl _ _)⟩
  clear h
  go_enter Tryz.func84, Tryz.ntmps84
  go_wp2_with fail
  clear c4 f4
  generalize w.setCell ⟨mb, 4, none⟩ (.int .i64 0) = w1 at *
  refine (wlk_end w1 mb xb f src own 0 pend ended code c HN.out.1).mono ?_
  rintro e w2 ⟨rfl, h2, k2⟩
  have H2 : Hid (w2.heap[mb]? = some (.cells (wlkA mb xb 177 src own 0 pend true c) 94) ∧ Keeps (fun g => g = mb) w w2) := ⟨h2, HN.out.2.trans k2⟩
  clear h2 k2 HN
  go_wp2
  go_ret
  exact ⟨rfl, H2.out⟩
theorem wlk_leave (w : World) (mb xb f : Nat) (src own slot pend : Int) (ended : Bool) (code : Int) (h : w.heap[mb]? = some (.cells (wlkA mb xb f src own slot pend ended code) 94)) : Calls Tryz.prog 177 #[.pointer (some ⟨mb, 0, none⟩)] w fun e w' => e = .returned (.bool true) ∧ w'.heap[mb]? = some (.cells (wlkA mb xb f src own 0 pend ended code) 94) ∧ Keeps (fun g => g = mb) w w' := by
  obtain ⟨-, -, -, -, c4, -, -, -⟩ := wlk_cells h
  have f4 := frozen?_heap h 4
  have HN : Hid ((w.setCell ⟨mb, 4, none⟩ (.int .i64 0)).heap[mb]? = some (.cells (wlkA mb xb f src own 0 pend ended code) 94) ∧ Keeps (fun g => g = mb) w (w.setCell ⟨mb, 4, none⟩ (.int .i64 0))) := ⟨heapSetC h 4 _, setK (Keeps.refl _ _)⟩
  clear h
  go_enter Tryz.func177, Tryz.ntmps177
  go_wp2
  go_ret
  exact ⟨rfl, HN.out⟩
theorem wlk_look0 (w : World) (mb xb f : Nat) (src own slot pend : Int) (ended : Bool) (code : Int) (n : Int) (h : w.heap[mb]? = some (.cells (wlkA mb xb f src own slot pend ended code) 94)) (hn : n = 0) : Calls Tryz.prog 86 #[.pointer (some ⟨mb, 0, none⟩), .int .i64 n] w fun e w' => e = .returned (.bool true) ∧ w'.heap[mb]? = some (.cells (wlkA mb xb 177 src own 0 pend true 42) 94) ∧ Keeps (fun g => g = mb) w w' := by
  have c3 := (wlk_cells h).2.2.2.1
  have HH : Hid (w.heap[mb]? = some (.cells (wlkA mb xb f src own slot pend ended code) 94)) := h
  subst hn
  clear h
  go_enter Tryz.func86, Tryz.ntmps86
  go_wp2_with fail
  clear c3
  refine (wlk_fail w mb xb f src own slot pend ended code 42 HH.out).mono ?_
  rintro e w2 ⟨rfl, h2, k2⟩
  have H2 : Hid (w2.heap[mb]? = some (.cells (wlkA mb xb 177 src own 0 pend true 42) 94) ∧ Keeps (fun g => g = mb) w w2) := ⟨h2, k2⟩
  clear h2 k2 HH
  go_wp2
  go_ret
  exact ⟨rfl, H2.out⟩
theorem wlk_look1 (w : World) (mb xb f : Nat) (src own slot pend : Int) (ended : Bool) (code : Int) (n : Int) (h : w.heap[mb]? = some (.cells (wlkA mb xb f src own slot pend ended code) 94)) (hn : ¬ n = 0) (hE : 4096 < n) (ho : ¬ own = 0) (hne : ¬ n = own) : Calls Tryz.prog 86 #[.pointer (some ⟨mb, 0, none⟩), .int .i64 n] w fun e w' => e = .returned (.bool true) ∧ w'.heap[mb]? = some (.cells (wlkA mb xb 177 src own slot pend true 43) 94) ∧ Keeps (fun g => g = mb) w w' := by
  have c3 := (wlk_cells h).2.2.2.1
  have HH : Hid (w.heap[mb]? = some (.cells (wlkA mb xb f src own slot pend ended code) 94)) := h
  clear h
  have ho2 : (own != 0) = true := by simp [ho]
  have hne2 : (n != own) = true := by simp [hne]
  go_enter Tryz.func86, Tryz.ntmps86
  go_wp2_with fail
  refine (is_end n w).mono ?_
  rintro e w1 ⟨rfl, hw1⟩
  rw [hw1, decide_eq_true hE]
  clear hw1 w1
  go_wp2_with fail
  clear c3
  refine (wlk_end _ mb xb f src own slot pend ended code 43 HH.out).mono ?_
  rintro e w2 ⟨rfl, h2, k2⟩
  have H2 : Hid (w2.heap[mb]? = some (.cells (wlkA mb xb 177 src own slot pend true 43) 94) ∧ Keeps (fun g => g = mb) w w2) := ⟨h2, k2⟩
  clear h2 k2 HH
  go_wp2
  go_ret
  exact ⟨rfl, H2.out⟩
theorem wlk_look2 (w : World) (mb xb f : Nat) (src own slot pend : Int) (ended : Bool) (code : Int) (n : Int) (h : w.heap[mb]? = some (.cells (wlkA mb xb f src own slot pend ended code) 94)) (hn : ¬ n = 0) (hE : 4096 < n) (ho : own = 0) : Calls Tryz.prog 86 #[.pointer (some ⟨mb, 0, none⟩), .int .i64 n] w fun e w' => e = .returned (.bool true) ∧ w'.heap[mb]? = some (.cells (wlkA mb xb 177 src own slot pend true 0) 94) ∧ Keeps (fun g => g = mb) w w' := by
  have c3 := (wlk_cells h).2.2.2.1
  have HH : Hid (w.heap[mb]? = some (.cells (wlkA mb xb f src own slot pend ended code) 94)) := h
  clear h
  have ho2 : (own != 0) = false := by simp [ho]
  clear ho
  go_enter Tryz.func86, Tryz.ntmps86
  go_wp2_with fail
  refine (is_end n w).mono ?_
  rintro e w1 ⟨rfl, hw1⟩
  rw [hw1, decide_eq_true hE]
  clear hw1 w1
  go_wp2_with fail
  refine (is_end n w).mono ?_
  rintro e w1 ⟨rfl, hw1⟩
  rw [hw1, decide_eq_true hE]
  clear hw1 w1
  go_wp2_with fail
  clear c3
  refine (wlk_end _ mb xb f src own slot pend ended code 0 HH.out).mono ?_
  rintro e w2 ⟨rfl, h2, k2⟩
  have H2 : Hid (w2.heap[mb]? = some (.cells (wlkA mb xb 177 src own slot pend true 0) 94) ∧ Keeps (fun g => g = mb) w w2) := ⟨h2, k2⟩
  clear h2 k2 HH
  go_wp2
  go_ret
  exact ⟨rfl, H2.out⟩
theorem wlk_look3 (w : World) (mb xb f : Nat) (src own slot pend : Int) (ended : Bool) (code : Int) (n : Int) (h : w.heap[mb]? = some (.cells (wlkA mb xb f src own slot pend ended code) 94)) (hn : ¬ n = 0) (hE : 4096 < n) (ho : ¬ own = 0) (hne : n = own) : Calls Tryz.prog 86 #[.pointer (some ⟨mb, 0, none⟩), .int .i64 n] w fun e w' => e = .returned (.bool true) ∧ w'.heap[mb]? = some (.cells (wlkA mb xb 177 src own slot pend true 0) 94) ∧ Keeps (fun g => g = mb) w w' := by
  have c3 := (wlk_cells h).2.2.2.1
  have HH : Hid (w.heap[mb]? = some (.cells (wlkA mb xb f src own slot pend ended code) 94)) := h
  clear h
  have ho2 : (own != 0) = true := by simp [ho]
  have hne2 : (n != own) = false := by simp [hne]
  clear hne
  go_enter Tryz.func86, Tryz.ntmps86
  go_wp2_with fail
  refine (is_end n w).mono ?_
  rintro e w1 ⟨rfl, hw1⟩
  rw [hw1, decide_eq_true hE]
  clear hw1 w1
  go_wp2_with fail
  refine (is_end n w).mono ?_
  rintro e w1 ⟨rfl, hw1⟩
  rw [hw1, decide_eq_true hE]
  clear hw1 w1
  go_wp2_with fail
  clear c3
  refine (wlk_end _ mb xb f src own slot pend ended code 0 HH.out).mono ?_
  rintro e w2 ⟨rfl, h2, k2⟩
  have H2 : Hid (w2.heap[mb]? = some (.cells (wlkA mb xb 177 src own slot pend true 0) 94) ∧ Keeps (fun g => g = mb) w w2) := ⟨h2, k2⟩
  clear h2 k2 HH
  go_wp2
  go_ret
  exact ⟨rfl, H2.out⟩
theorem wlk_look4 (w : World) (mb xb f : Nat) (src own slot pend : Int) (ended : Bool) (code : Int) (n : Int) (h : w.heap[mb]? = some (.cells (wlkA mb xb f src own slot pend ended code) 94)) (hn : ¬ n = 0) (hE : ¬ 4096 < n) : Calls Tryz.prog 86 #[.pointer (some ⟨mb, 0, none⟩), .int .i64 n] w fun e w' => e = .returned (.bool (decide (¬ slot = 0))) ∧ w'.heap[mb]? = some (.cells (wlkA mb xb 133 src own slot n ended code) 94) ∧ Keeps (fun g => g = mb) w w' := by
  have c3 := (wlk_cells h).2.2.2.1
  have HH : Hid (w.heap[mb]? = some (.cells (wlkA mb xb f src own slot pend ended code) 94)) := h
  have c5 := (wlk_cells h).2.2.2.2.2.1
  have c1 := (wlk_cells h).2.1
  have c4 := (wlk_cells h).2.2.2.2.1
  have f5 := frozen?_heap h 5
  have f1 := frozen?_heap h 1
  have HN : Hid (((w.setCell ⟨mb, 5, none⟩ (.int .i64 n)).setCell ⟨mb, 1, none⟩ (nxV 133 mb)).heap[mb]? = some (.cells (wlkA mb xb 133 src own slot n ended code) 94) ∧ Keeps (fun g => g = mb) w ((w.setCell ⟨mb, 5, none⟩ (.int .i64 n)).setCell ⟨mb, 1, none⟩ (nxV 133 mb))) := ⟨heapSetC (heapSetC h 5 _) 1 _, setK (setK (Keeps.refl _ _))⟩
  clear h
  have HE : Hid (decide (4096 < n) = false) := decide_eq_false hE
  clear hE
  obtain ⟨r, hr⟩ : ∃ r, decide (¬ slot = 0) = r := ⟨_, rfl⟩
  rw [hr]
  have HR : Hid (decide (¬ slot = 0) = r) := hr
  clear hr
  go_enter Tryz.func86, Tryz.ntmps86
  go_wp2_with fail
  refine (is_end n w).mono ?_
  rintro e w1 ⟨rfl, hw1⟩
  rw [hw1, HE.out]
  clear hw1 w1
  go_wp2_with fail
  refine (is_end n w).mono ?_
  rintro e w2 ⟨rfl, hw2⟩
  rw [hw2, HE.out]
  clear hw2 w2
  by_cases hz : slot = 0
  · have : r = false := by rw [← HR.out]; simp [hz]
    subst this
    clear HR
    go_wp2
    go_ret
    exact ⟨rfl, HN.out⟩
  · have : r = true := by rw [← HR.out]; simp [hz]
    subst this
    have hz2 : (slot != 0) = true := by simp [hz]
    clear HR
    go_wp2
    go_ret
    exact ⟨rfl, HN.out⟩
theorem wlk_look (w : World) (mb xb : Nat) (m : MW) (n : Int) (h : WlkH w mb xb m) : Calls Tryz.prog 86 #[.pointer (some ⟨mb, 0, none⟩), .int .i64 n] w fun e w' => e = .returned (.bool (lookW m n).1) ∧ WlkH w' mb xb (lookW m n).2 ∧ Keeps (fun g => g = mb) w w' := by
  obtain ⟨st, src, own, slot, pend, ended, code⟩ := m
  unfold lookW
  by_cases h0 : n = 0
  · rw [if_pos h0]
    exact wlk_look0 w mb xb _ src own slot pend ended code n h h0
  · rw [if_neg h0]
    by_cases h1 : 4096 < n
    · rw [if_pos h1]
      by_cases h2 : own = 0
      · rw [if_neg (fun e => e.1 h2)]
        exact wlk_look2 w mb xb _ src own slot pend ended code n h h0 h1 h2
      · by_cases h3 : n = own
        · rw [if_neg (fun e => e.2 h3)]
          exact wlk_look3 w mb xb _ src own slot pend ended code n h h0 h1 h2 h3
        · rw [if_pos ⟨h2, h3⟩]
          exact wlk_look1 w mb xb _ src own slot pend ended code n h h0 h1 h2 h3
    · rw [if_neg h1]
      exact wlk_look4 w mb xb _ src own slot pend ended code n h h0 h1
end Go.Proofs.YteekompojgbkhaaGreat
