import Derived.Test.YteekompojgbkhaaGreatKChA
namespace Go.Proofs.YteekompojgbkhaaGreat
set_option linter.unusedSimpArgs false
open Go.ChangeShapes Go.WideShapes Go.ChangeAt Go.RowKit Go.MuLone Go.RwLone
set_option linter.unusedVariables false
set_option maxRecDepth 100000
set_option maxHeartbeats 3200000
def inB (x : XS) (b : Int) : Bool := decide (0 ≤ b) && decide (b < (x.nb : Int))
theorem inB_yes {x : XS} {b : Int} (h : inB x b = true) : ∃ k : Nat, k < x.nb ∧ b = (k : Int) := by
  unfold inB at h
  rw [Bool.and_eq_true, decide_eq_true_eq, decide_eq_true_eq] at h
  exact ⟨b.toNat, by omega, by omega⟩
theorem inB_of (x : XS) (k : Nat) (h : k < x.nb) : inB x (k : Int) = true := by
  unfold inB
  rw [decide_eq_true (by omega), decide_eq_true (by omega)]
  rfl
theorem ix_has (w : World) (ab : Nat) (X : XL) (x : XS) (b : Int) (h : IxH w ab X x) : Calls Tryz.prog 80 #[.pointer (some ⟨X.x, 0, none⟩), .int .i64 b] w fun e w' => e = .returned (.bool (inB x b)) ∧ w' = w := by
  have c2 := h.c2
  clear h
  by_cases h0 : 0 ≤ b
  · by_cases h1 : b < (x.nb : Int)
    · have e : inB x b = true := by unfold inB; rw [decide_eq_true h0, decide_eq_true h1]; rfl
      rw [e]
      clear e
      go_enter Tryz.func80, Tryz.ntmps80
      go_wp2
      go_ret
      exact ⟨rfl, rfl⟩
    · have e : inB x b = false := by unfold inB; rw [decide_eq_true h0, decide_eq_false h1]; rfl
      rw [e]
      clear e
      go_enter Tryz.func80, Tryz.ntmps80
      go_wp2
      go_ret
      exact ⟨rfl, rfl⟩
  · have e : inB x b = false := by unfold inB; rw [decide_eq_false h0]; rfl
    rw [e]
    clear e
    go_enter Tryz.func80, Tryz.ntmps80
    go_wp2
    go_ret
    exact ⟨rfl, rfl⟩
theorem ix_loadHead (w : World) (ab : Nat) (X : XL) (x : XS) (b : Nat) (hb : b < x.nb) (h : IxH w ab X x) : Calls Tryz.prog 85 #[.pointer (some ⟨X.x, 0, none⟩), .int .i64 (b : Int)] w fun e w' => e = .returned (.int .u64 (x.hd b)) ∧ IxH w' ab X x.cn1 ∧ Keeps X.has w w' := by
  have hz := h.nb.2
  have HA := i64_add ⟨X.x, 3, none⟩ x.cn 1 w h.c3 (h.f _ _ (.inl rfl))
  have HAA : Hid (∀ _ : Unit, _) := fun _ => HA
  have H1 : Hid (IxH (w.setCell ⟨X.x, 3, none⟩ (.int .i64 (wrap64 (x.cn + 1)))) ab X x.cn1 ∧ Keeps X.has w (w.setCell ⟨X.x, 3, none⟩ (.int .i64 (wrap64 (x.cn + 1))))) := ⟨h.setCn _, (Keeps.refl _ _).setCell (p := ⟨X.x, 3, none⟩) (.inl rfl) _⟩
  clear HA h
  have b0 : (0 : Int) ≤ (b : Int) := Int.natCast_nonneg _
  have b1 : (b : Int) < (x.nb : Int) := by omega
  go_enter Tryz.func85, Tryz.ntmps85
  go_wp2_with fail
  refine (HAA.out ()).mono ?_
  rintro e w1 ⟨rfl, rfl⟩
  generalize w.setCell ⟨X.x, 3, none⟩ (.int .i64 (wrap64 (x.cn + 1))) = w1 at *
  have c2 : w1.cell? ⟨X.x, 2, none⟩ = some (.slice (some ⟨X.h, 0, none⟩) x.nb x.nb) := H1.out.1.c2
  have hd : w1.cell? ⟨X.h, b, none⟩ = some (.int .u64 (x.hd b)) := H1.out.1.hd b hb
  clear HAA
  go_wp2_with fail
  refine (u64_load ⟨X.h, b, none⟩ (x.hd b) w1 hd).mono ?_
  rintro e w2 ⟨rfl, rfl⟩
  go_wp2
  go_ret
  exact ⟨rfl, H1.out⟩
theorem ix_swap_hit (w : World) (ab : Nat) (X : XL) (x : XS) (b : Nat) (hb : b < x.nb) (u y : Int) (h : IxH w ab X x) (hu : x.hd b = u) : Calls Tryz.prog 216 #[.pointer (some ⟨X.x, 0, none⟩), .int .i64 (b : Int), .int .u64 u, .int .u64 y] w fun e w' => e = .returned (.bool true) ∧ IxH w' ab X { x.cn1 with hd := upd x.hd b y } ∧ Keeps X.has w w' := by
  have hz := h.nb.2
  have HA := i64_add ⟨X.x, 3, none⟩ x.cn 1 w h.c3 (h.f _ _ (.inl rfl))
  have HAA : Hid (∀ _ : Unit, _) := fun _ => HA
  have H1 : Hid (IxH (w.setCell ⟨X.x, 3, none⟩ (.int .i64 (wrap64 (x.cn + 1)))) ab X x.cn1 ∧ Keeps X.has w (w.setCell ⟨X.x, 3, none⟩ (.int .i64 (wrap64 (x.cn + 1))))) := ⟨h.setCn _, (Keeps.refl _ _).setCell (p := ⟨X.x, 3, none⟩) (.inl rfl) _⟩
  clear HA h
  have b0 : (0 : Int) ≤ (b : Int) := Int.natCast_nonneg _
  have b1 : (b : Int) < (x.nb : Int) := by omega
  go_enter Tryz.func216, Tryz.ntmps216
  go_wp2_with fail
  refine (HAA.out ()).mono ?_
  rintro e w1 ⟨rfl, rfl⟩
  generalize w.setCell ⟨X.x, 3, none⟩ (.int .i64 (wrap64 (x.cn + 1))) = w1 at *
  have c2 : w1.cell? ⟨X.x, 2, none⟩ = some (.slice (some ⟨X.h, 0, none⟩) x.nb x.nb) := H1.out.1.c2
  have hd : w1.cell? ⟨X.h, b, none⟩ = some (.int .u64 u) := by rw [← hu]; exact H1.out.1.hd b hb
  have fz := H1.out.1.f X.h b (.inr rfl)
  have H2 : Hid (IxH (w1.setCell ⟨X.h, b, none⟩ (.int .u64 y)) ab X { x.cn1 with hd := upd x.hd b y } ∧ Keeps X.has w (w1.setCell ⟨X.h, b, none⟩ (.int .u64 y))) := ⟨H1.out.1.setHd b hb y, H1.out.2.setCell (p := ⟨X.h, b, none⟩) (.inr rfl) _⟩
  clear HAA H1 hu
  go_wp2_with fail
  refine (u64_cas_hit ⟨X.h, b, none⟩ u y w1 hd fz).mono ?_
  rintro e w2 ⟨rfl, rfl⟩
  clear hd fz c2
  go_wp2
  go_ret
  exact ⟨rfl, H2.out⟩
theorem ix_swap_miss (w : World) (ab : Nat) (X : XL) (x : XS) (b : Nat) (hb : b < x.nb) (u y : Int) (h : IxH w ab X x) (hu : ¬ x.hd b = u) : Calls Tryz.prog 216 #[.pointer (some ⟨X.x, 0, none⟩), .int .i64 (b : Int), .int .u64 u, .int .u64 y] w fun e w' => e = .returned (.bool false) ∧ IxH w' ab X x.cn1 ∧ Keeps X.has w w' := by
  have hz := h.nb.2
  have HA := i64_add ⟨X.x, 3, none⟩ x.cn 1 w h.c3 (h.f _ _ (.inl rfl))
  have HAA : Hid (∀ _ : Unit, _) := fun _ => HA
  have H1 : Hid (IxH (w.setCell ⟨X.x, 3, none⟩ (.int .i64 (wrap64 (x.cn + 1)))) ab X x.cn1 ∧ Keeps X.has w (w.setCell ⟨X.x, 3, none⟩ (.int .i64 (wrap64 (x.cn + 1))))) := ⟨h.setCn _, (Keeps.refl _ _).setCell (p := ⟨X.x, 3, none⟩) (.inl rfl) _⟩
  clear HA h
  have b0 : (0 : Int) ≤ (b : Int) := Int.natCast_nonneg _
  have b1 : (b : Int) < (x.nb : Int) := by omega
  have HU : Hid (¬ x.hd b = u) := hu
  clear hu
  go_enter Tryz.func216, Tryz.ntmps216
  go_wp2_with fail
  refine (HAA.out ()).mono ?_
  rintro e w1 ⟨rfl, rfl⟩
  generalize w.setCell ⟨X.x, 3, none⟩ (.int .i64 (wrap64 (x.cn + 1))) = w1 at *
  have c2 : w1.cell? ⟨X.x, 2, none⟩ = some (.slice (some ⟨X.h, 0, none⟩) x.nb x.nb) := H1.out.1.c2
  have hd : w1.cell? ⟨X.h, b, none⟩ = some (.int .u64 (x.hd b)) := H1.out.1.hd b hb
  have fz := H1.out.1.f X.h b (.inr rfl)
  clear HAA
  go_wp2_with fail
  refine (u64_cas_miss ⟨X.h, b, none⟩ (x.hd b) u y w1 hd fz HU.out).mono ?_
  rintro e w2 ⟨rfl, rfl⟩
  clear hd fz c2
  go_wp2
  go_ret
  exact ⟨rfl, H1.out⟩
/-- An arena at rest and an index over it. -/
structure CH (w : World) (L : Lay) (Q : List Nat) (S : AS) (X : XL) (x : XS) : Prop where
  a : Arn w L Q S
  i : IxH w L.b X x
  d : ∀ g, X.has g → ¬ L.has g
  c : x.cell < S.wd
def chF (L : Lay) (X : XL) (g : Nat) : Prop := L.has g ∨ X.has g
theorem CH.keeps {w w' : World} {L : Lay} {Q : List Nat} {S : AS} {X : XL} {x : XS} {D : Nat → Prop} (h : CH w L Q S X x) (k : Keeps D w w') (hn : ∀ g, chF L X g → ¬ D g) : CH w' L Q S X x :=
  ⟨h.a.keeps k (fun g hg => hn g (.inl hg)), h.i.keeps k (fun g hg => hn g (.inr hg)), h.d, h.c⟩
theorem CH.drew {w : World} {L : Lay} {Q : List Nat} {S : AS} {X : XL} {x : XS} (h : CH w L Q S X x) : CH w.drew L Q S X x := h.keeps (D := fun _ => False) (Keeps.refl _ _).drew (fun _ _ e => e)
theorem CH.arn {w w' : World} {L : Lay} {Q : List Nat} {S S' : AS} {X : XL} {x : XS} (h : CH w L Q S X x) (ha : Arn w' L Q S') (k : Keeps L.has w w') (hw : S'.wd = S.wd) : CH w' L Q S' X x :=
  ⟨ha, h.i.keeps k (fun g hg => h.d g hg), h.d, by rw [hw]; exact h.c⟩
theorem CH.ix {w w' : World} {L : Lay} {Q : List Nat} {S : AS} {X : XL} {x x' : XS} (h : CH w L Q S X x) (hx : IxH w' L.b X x') (k : Keeps X.has w w') (hc : x'.cell = x.cell) : CH w' L Q S X x' :=
  ⟨h.a.keeps k (fun g hg e => h.d g e hg), hx, h.d, by rw [hc]; exact h.c⟩
theorem CH.lt {w : World} {L : Lay} {Q : List Nat} {S : AS} {X : XL} {x : XS} (h : CH w L Q S X x) : ∀ g, chF L X g → g < w.heap.size := fun g hg => by
  rcases hg with e | e | e
  · exact h.a.h.lt g e
  · rw [e]; exact h.i.lx
  · rw [e]; exact h.i.lh
theorem ix_loadLink (w : World) (L : Lay) (Q : List Nat) (S : AS) (X : XL) (x : XS) (s : Int) (h : CH w L Q S X x) (hs : liv S s = true) : Calls Tryz.prog 88 #[.pointer (some ⟨X.x, 0, none⟩), .int .i64 s] w fun e w' => e = .returned (.tuple #[.int .u64 (S.word (atC S s x.cell)), .int .i64 0]) ∧ CH w' L Q (acc1 S) X x ∧ Keeps (chF L X) w w' := by
  have HD : Hid (CH w.drew L Q S X x) := h.drew
  have sx : w.drew.cell? ⟨X.x, 0, none⟩ = some (.pointer (some ⟨L.b, 0, none⟩)) ∧ w.drew.cell? ⟨X.x, 1, none⟩ = some (.int .i64 (x.cell : Int)) := ⟨HD.out.i.c0, HD.out.i.c1⟩
  obtain ⟨v, hv⟩ : ∃ v, S.word (atC S s x.cell) = v := ⟨_, rfl⟩
  have HL := arn_load L S w.drew Q s x.cell HD.out.a hs HD.out.c
  rw [hv] at HL ⊢
  have HLL : Hid (∀ _ : Unit, _) := fun _ => HL
  have HF : Hid (∀ w', Arn w' L Q (acc1 S) → Keeps L.has w.drew w' → CH w' L Q (acc1 S) X x ∧ Keeps (chF L X) w w') := fun w' ha k => ⟨HD.out.arn ha k rfl, (Keeps.refl _ _).drew.trans (k.mono (fun _ e => .inl e))⟩
  clear HL h hv hs
  go_enter Tryz.func88, Tryz.ntmps88
  go_wp2_with fail
  (refine wp_region_held_drew (S := (fun Z => Z.cell? ⟨X.x, 0, none⟩ = some (.pointer (some ⟨L.b, 0, none⟩)) ∧ Z.cell? ⟨X.x, 1, none⟩ = some (.int .i64 (x.cell : Int)))) (by kernel_rfl) sx (fun hHeld => ?_); simp only [List.size_toArray, List.length_cons, List.length_nil, Nat.reduceAdd, Array.replicate_succ, Array.replicate_zero, List.push_toArray, List.append_toArray, List.nil_append, List.cons_append])
  clear sx
  refine rgT 0 (h := ?_)
  refine rgT 1 (h := ?_)
  refine rgT 2 (h := ?_)
  refine rgT 3 (h := ?_)
  refine rgT 4 (h := ?_)
  refine rgT 5 (h := ?_)
  refine rgT 6 (h := ?_)
  refine rgT 7 (h := ?_)
  refine rgT 8 (h := ?_)
  (refine rgS 9 (h := fun K hK => ?_); go_simp)
  refine (HLL.out ()).mono ?_
  rintro e w1 ⟨rfl, ha, k⟩
  have H1 := HF.out w1 ha k
  have HH : Hid (CH w1 L Q (acc1 S) X x ∧ Keeps (chF L X) w w1) := H1
  clear ha k HLL HF HD
  (refine hK.out _ _ ⟨H1.1.i.c0, H1.1.i.c1⟩ (fun hHeld => ?_); clear hK K; try simp only [Act.put, List.setIfInBounds_toArray, List.set_cons_zero, List.set_cons_succ])
  clear H1
  refine rgT 10 (h := ?_)
  refine rgT 11 (h := ?_)
  refine rgT 12 (h := ?_)
  refine rgT 13 (h := ?_)
  refine wpAnyH_done (by kernel_rfl) ?_ _
  clear hHeld
  clear hHeld
  go_wp2
  go_ret2
  exact ⟨rfl, HH.out⟩
end Go.Proofs.YteekompojgbkhaaGreat

namespace Go.Proofs.YteekompojgbkhaaGreat
set_option linter.unusedSimpArgs false
open Go.ChangeShapes Go.WideShapes Go.ChangeAt Go.RowKit Go.MuLone Go.RwLone
set_option linter.unusedVariables false
set_option maxRecDepth 100000
set_option maxHeartbeats 3200000
theorem ix_loadLink_no (w : World) (L : Lay) (Q : List Nat) (S : AS) (X : XL) (x : XS) (s : Int) (h : CH w L Q S X x) (hs : liv S s = false) : Calls Tryz.prog 88 #[.pointer (some ⟨X.x, 0, none⟩), .int .i64 s] w fun e w' => e = .returned (.tuple #[.int .u64 0, .int .i64 22]) ∧ CH w' L Q (mis1 S) X x ∧ Keeps (chF L X) w w' := by
  have HD : Hid (CH w.drew L Q S X x) := h.drew
  have sx : w.drew.cell? ⟨X.x, 0, none⟩ = some (.pointer (some ⟨L.b, 0, none⟩)) ∧ w.drew.cell? ⟨X.x, 1, none⟩ = some (.int .i64 (x.cell : Int)) := ⟨HD.out.i.c0, HD.out.i.c1⟩
  have HL := arn_load_no L S w.drew Q s (x.cell : Int) HD.out.a hs
  have HLL : Hid (∀ _ : Unit, _) := fun _ => HL
  have HF : Hid (∀ w', Arn w' L Q (mis1 S) → Keeps L.has w.drew w' → CH w' L Q (mis1 S) X x ∧ Keeps (chF L X) w w') := fun w' ha k => ⟨HD.out.arn ha k rfl, (Keeps.refl _ _).drew.trans (k.mono (fun _ e => .inl e))⟩
  clear HL h hs
  go_enter Tryz.func88, Tryz.ntmps88
  go_wp2_with fail
  (refine wp_region_held_drew (S := (fun Z => Z.cell? ⟨X.x, 0, none⟩ = some (.pointer (some ⟨L.b, 0, none⟩)) ∧ Z.cell? ⟨X.x, 1, none⟩ = some (.int .i64 (x.cell : Int)))) (by kernel_rfl) sx (fun hHeld => ?_); simp only [List.size_toArray, List.length_cons, List.length_nil, Nat.reduceAdd, Array.replicate_succ, Array.replicate_zero, List.push_toArray, List.append_toArray, List.nil_append, List.cons_append])
  clear sx
  refine rgT 0 (h := ?_)
  refine rgT 1 (h := ?_)
  refine rgT 2 (h := ?_)
  refine rgT 3 (h := ?_)
  refine rgT 4 (h := ?_)
  refine rgT 5 (h := ?_)
  refine rgT 6 (h := ?_)
  refine rgT 7 (h := ?_)
  refine rgT 8 (h := ?_)
  (refine rgS 9 (h := fun K hK => ?_); go_simp)
  refine (HLL.out ()).mono ?_
  rintro e w1 ⟨rfl, ha, k⟩
  have H1 := HF.out w1 ha k
  have HH : Hid (CH w1 L Q (mis1 S) X x ∧ Keeps (chF L X) w w1) := H1
  clear ha k HLL HF HD
  (refine hK.out _ _ ⟨H1.1.i.c0, H1.1.i.c1⟩ (fun hHeld => ?_); clear hK K; try simp only [Act.put, List.setIfInBounds_toArray, List.set_cons_zero, List.set_cons_succ])
  clear H1
  refine rgT 10 (h := ?_)
  refine rgT 11 (h := ?_)
  refine rgT 12 (h := ?_)
  refine rgT 13 (h := ?_)
  refine wpAnyH_done (by kernel_rfl) ?_ _
  clear hHeld
  clear hHeld
  go_wp2
  go_ret2
  exact ⟨rfl, HH.out⟩
theorem ix_storeLink (w : World) (L : Lay) (Q : List Nat) (S : AS) (X : XL) (x : XS) (s : Int) (y : Int) (h : CH w L Q S X x) (hs : liv S s = true) : Calls Tryz.prog 180 #[.pointer (some ⟨X.x, 0, none⟩), .int .i64 s, .int .u64 y] w fun e w' => e = .returned (.int .i64 0) ∧ CH w' L Q (put1 S (atC S s x.cell) y) X x ∧ Keeps (chF L X) w w' := by
  have HD : Hid (CH w.drew L Q S X x) := h.drew
  have sx : w.drew.cell? ⟨X.x, 0, none⟩ = some (.pointer (some ⟨L.b, 0, none⟩)) ∧ w.drew.cell? ⟨X.x, 1, none⟩ = some (.int .i64 (x.cell : Int)) := ⟨HD.out.i.c0, HD.out.i.c1⟩
  have HL := arn_store L S w.drew Q s x.cell y HD.out.a hs HD.out.c
  have HLL : Hid (∀ _ : Unit, _) := fun _ => HL
  have HF : Hid (∀ w', Arn w' L Q (put1 S (atC S s x.cell) y) → Keeps L.has w.drew w' → CH w' L Q (put1 S (atC S s x.cell) y) X x ∧ Keeps (chF L X) w w') := fun w' ha k => ⟨HD.out.arn ha k rfl, (Keeps.refl _ _).drew.trans (k.mono (fun _ e => .inl e))⟩
  clear HL h hs
  go_enter Tryz.func180, Tryz.ntmps180
  go_wp2_with fail
  (refine wp_region_held_drew (S := (fun Z => Z.cell? ⟨X.x, 0, none⟩ = some (.pointer (some ⟨L.b, 0, none⟩)) ∧ Z.cell? ⟨X.x, 1, none⟩ = some (.int .i64 (x.cell : Int)))) (by kernel_rfl) sx (fun hHeld => ?_); simp only [List.size_toArray, List.length_cons, List.length_nil, Nat.reduceAdd, Array.replicate_succ, Array.replicate_zero, List.push_toArray, List.append_toArray, List.nil_append, List.cons_append])
  clear sx
  refine rgT 0 (h := ?_)
  refine rgT 1 (h := ?_)
  refine rgT 2 (h := ?_)
  refine rgT 3 (h := ?_)
  refine rgT 4 (h := ?_)
  refine rgT 5 (h := ?_)
  refine rgT 6 (h := ?_)
  refine rgT 7 (h := ?_)
  refine rgT 8 (h := ?_)
  refine rgT 9 (h := ?_)
  (refine rgS 10 (h := fun K hK => ?_); go_simp)
  refine (HLL.out ()).mono ?_
  rintro e w1 ⟨rfl, ha, k⟩
  have H1 := HF.out w1 ha k
  have HH : Hid (CH w1 L Q (put1 S (atC S s x.cell) y) X x ∧ Keeps (chF L X) w w1) := H1
  clear ha k HLL HF HD
  (refine hK.out _ _ ⟨H1.1.i.c0, H1.1.i.c1⟩ (fun hHeld => ?_); clear hK K; try simp only [Act.put, List.setIfInBounds_toArray, List.set_cons_zero, List.set_cons_succ])
  clear H1
  refine rgT 11 (h := ?_)
  refine wpAnyH_done (by kernel_rfl) ?_ _
  clear hHeld
  clear hHeld
  go_wp2
  go_ret
  exact ⟨rfl, HH.out⟩
theorem ix_storeLink_no (w : World) (L : Lay) (Q : List Nat) (S : AS) (X : XL) (x : XS) (s : Int) (y : Int) (h : CH w L Q S X x) (hs : liv S s = false) : Calls Tryz.prog 180 #[.pointer (some ⟨X.x, 0, none⟩), .int .i64 s, .int .u64 y] w fun e w' => e = .returned (.int .i64 22) ∧ CH w' L Q (mis1 S) X x ∧ Keeps (chF L X) w w' := by
  have HD : Hid (CH w.drew L Q S X x) := h.drew
  have sx : w.drew.cell? ⟨X.x, 0, none⟩ = some (.pointer (some ⟨L.b, 0, none⟩)) ∧ w.drew.cell? ⟨X.x, 1, none⟩ = some (.int .i64 (x.cell : Int)) := ⟨HD.out.i.c0, HD.out.i.c1⟩
  have HL := arn_store_no L S w.drew Q s (x.cell : Int) y HD.out.a hs
  have HLL : Hid (∀ _ : Unit, _) := fun _ => HL
  have HF : Hid (∀ w', Arn w' L Q (mis1 S) → Keeps L.has w.drew w' → CH w' L Q (mis1 S) X x ∧ Keeps (chF L X) w w') := fun w' ha k => ⟨HD.out.arn ha k rfl, (Keeps.refl _ _).drew.trans (k.mono (fun _ e => .inl e))⟩
  clear HL h hs
  go_enter Tryz.func180, Tryz.ntmps180
  go_wp2_with fail
  (refine wp_region_held_drew (S := (fun Z => Z.cell? ⟨X.x, 0, none⟩ = some (.pointer (some ⟨L.b, 0, none⟩)) ∧ Z.cell? ⟨X.x, 1, none⟩ = some (.int .i64 (x.cell : Int)))) (by kernel_rfl) sx (fun hHeld => ?_); simp only [List.size_toArray, List.length_cons, List.length_nil, Nat.reduceAdd, Array.replicate_succ, Array.replicate_zero, List.push_toArray, List.append_toArray, List.nil_append, List.cons_append])
  clear sx
  refine rgT 0 (h := ?_)
  refine rgT 1 (h := ?_)
  refine rgT 2 (h := ?_)
  refine rgT 3 (h := ?_)
  refine rgT 4 (h := ?_)
  refine rgT 5 (h := ?_)
  refine rgT 6 (h := ?_)
  refine rgT 7 (h := ?_)
  refine rgT 8 (h := ?_)
  refine rgT 9 (h := ?_)
  (refine rgS 10 (h := fun K hK => ?_); go_simp)
  refine (HLL.out ()).mono ?_
  rintro e w1 ⟨rfl, ha, k⟩
  have H1 := HF.out w1 ha k
  have HH : Hid (CH w1 L Q (mis1 S) X x ∧ Keeps (chF L X) w w1) := H1
  clear ha k HLL HF HD
  (refine hK.out _ _ ⟨H1.1.i.c0, H1.1.i.c1⟩ (fun hHeld => ?_); clear hK K; try simp only [Act.put, List.setIfInBounds_toArray, List.set_cons_zero, List.set_cons_succ])
  clear H1
  refine rgT 11 (h := ?_)
  refine wpAnyH_done (by kernel_rfl) ?_ _
  clear hHeld
  clear hHeld
  go_wp2
  go_ret
  exact ⟨rfl, HH.out⟩
end Go.Proofs.YteekompojgbkhaaGreat
