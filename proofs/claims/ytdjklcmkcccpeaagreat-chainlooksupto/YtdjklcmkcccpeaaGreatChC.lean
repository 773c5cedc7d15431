import Derived.Test.YtdjklcmkcccpeaaGreatChB
namespace Go.Proofs.YtdjklcmkcccpeaaGreat
set_option linter.unusedSimpArgs false
open Go.ChangeShapes Go.WideShapes Go.ChangeAt Go.RowKit Go.MuLone Go.RwLone
set_option linter.unusedVariables false
set_option maxRecDepth 100000
set_option maxHeartbeats 3200000
theorem ix_loadLink_no (w : World) (L : Lay) (Q : List Nat) (S : AS) (X : XL) (x : XS) (s : Int) (h : CH w L Q S X x) (hs : liv S s = false) : Calls Tryz.prog 76 #[.pointer (some ⟨X.x, 0, none⟩), .int .i64 s] w fun e w' => e = .returned (.tuple #[.int .u64 0, .int .i64 22]) ∧ CH w' L Q (mis1 S) X x ∧ Keeps (chF L X) w w' := by
  have HD : Hid (CH w.drew L Q S X x) := h.drew
  have sx : w.drew.cell? ⟨X.x, 0, none⟩ = some (.pointer (some ⟨L.b, 0, none⟩)) ∧ w.drew.cell? ⟨X.x, 1, none⟩ = some (.int .i64 (x.cell : Int)) := ⟨HD.out.i.c0, HD.out.i.c1⟩
  have HL := arn_load_no L S w.drew Q s (x.cell : Int) HD.out.a hs
  have HLL : Hid (∀ _ : Unit, _) := fun _ => HL
  have HF : Hid (∀ w', Arn w' L Q (mis1 S) → Keeps L.has w.drew w' → CH w' L Q (mis1 S) X x ∧ Keeps (chF L X) w w') := fun w' ha k => ⟨HD.out.arn ha k rfl, (Keeps.refl _ _).drew.trans (k.mono (fun _ e => .inl e))⟩
  clear HL h hs
  go_enter Tryz.func76, Tryz.ntmps76
  go_wp2_with fail
  (refine wp_region_held_drew (S := (fun Z => Z.cell? ⟨X.x, 0, none⟩ = some (.pointer (some ⟨L.b, 0, none⟩)) ∧ Z.cell? ⟨X.x, 1, none⟩ = some (.int .i64 (x.cell : Int)))) (by kernel_rfl) sx (fun hHeld => ?_); simp only [List.size_toArray, List.length_cons, List.length_nil, Nat.reduceAdd, Array.replicate_succ, Array.replicate_zero, List.push_toArray, List.append_toArray, List.nil_append, List.cons_append])
  clear sx
  refine rgT 0 (h := ?_)
  refine rgT 1 (h := ?_)
  refine rgT 2 (h := ?_)
  refine rgT 3 (h := ?_)
  refine rgT 4 (h := ?_)
  refine rgT 5 (h := ?_)
  refine rgT 6 (h := ?_)
  refine rgT 7 (h := ?_)
  refine rgT 8 (h := ?_)
  (refine rgS 9 (h := fun K hK => ?_); go_simp)
  refine (HLL.out ()).mono ?_
  rintro e w1 ⟨rfl, ha, k⟩
  have H1 := HF.out w1 ha k
  have HH : Hid (CH w1 L Q (mis1 S) X x ∧ Keeps (chF L X) w w1) := H1
  clear ha k HLL HF HD
  (refine hK.out _ _ ⟨H1.1.i.c0, H1.1.i.c1⟩ (fun hHeld => ?_); clear hK K; try simp only [Act.put, List.setIfInBounds_toArray, List.set_cons_zero, List.set_cons_succ])
  clear H1
  refine rgT 10 (h := ?_)
  refine rgT 11 (h := ?_)
  refine rgT 12 (h := ?_)
  refine rgT 13 (h := ?_)
  refine wpAnyH_done (by kernel_rfl) ?_ _
  clear hHeld
  clear hHeld
  go_wp2
  go_ret2
  exact ⟨rfl, HH.out⟩
theorem ix_storeLink (w : World) (L : Lay) (Q : List Nat) (S : AS) (X : XL) (x : XS) (s : Int) (y : Int) (h : CH w L Q S X x) (hs : liv S s = true) : Calls Tryz.prog 176 #[.pointer (some ⟨X.x, 0, none⟩), .int .i64 s, .int .u64 y] w fun e w' => e = .returned (.int .i64 0) ∧ CH w' L Q (put1 S (atC S s x.cell) y) X x ∧ Keeps (chF L X) w w' := by
  have HD : Hid (CH w.drew L Q S X x) := h.drew
  have sx : w.drew.cell? ⟨X.x, 0, none⟩ = some (.pointer (some ⟨L.b, 0, none⟩)) ∧ w.drew.cell? ⟨X.x, 1, none⟩ = some (.int .i64 (x.cell : Int)) := ⟨HD.out.i.c0, HD.out.i.c1⟩
  have HL := arn_store L S w.drew Q s x.cell y HD.out.a hs HD.out.c
  have HLL : Hid (∀ _ : Unit, _) := fun _ => HL
  have HF : Hid (∀ w', Arn w' L Q (put1 S (atC S s x.cell) y) → Keeps L.has w.drew w' → CH w' L Q (put1 S (atC S s x.cell) y) X x ∧ Keeps (chF L X) w w') := fun w' ha k => ⟨HD.out.arn ha k rfl, (Keeps.refl _ _).drew.trans (k.mono (fun _ e => .inl e))⟩
  clear HL h hs
  go_enter Tryz.func176, Tryz.ntmps176
  go_wp2_with fail
  (refine wp_region_held_drew (S := (fun Z => Z.cell? ⟨X.x, 0, none⟩ = some (.pointer (some ⟨L.b, 0, none⟩)) ∧ Z.cell? ⟨X.x, 1, none⟩ = some (.int .i64 (x.cell : Int)))) (by kernel_rfl) sx (fun hHeld => ?_); simp only [List.size_toArray, List.length_cons, List.length_nil, Nat.reduceAdd, Array.replicate_succ, Array.replicate_zero, List.push_toArray, List.append_toArray, List.nil_append, List.cons_append])
  clear sx
  refine rgT 0 (h := ?_)
  refine rgT 1 (h := ?_)
  refine rgT 2 (h := ?_)
  refine rgT 3 (h := ?_)
  refine rgT 4 (h := ?_)
  refine rgT 5 (h := ?_)
  refine rgT 6 (h := ?_)
  refine rgT 7 (h := ?_)
  refine rgT 8 (h := ?_)
  refine rgT 9 (h := ?_)
  (refine rgS 10 (h := fun K hK => ?_); go_simp)
  refine (HLL.out ()).mono ?_
  rintro e w1 ⟨rfl, ha, k⟩
  have H1 := HF.out w1 ha k
  have HH : Hid (CH w1 L Q (put1 S (atC S s x.cell) y) X x ∧ Keeps (chF L X) w w1) := H1
  clear ha k HLL HF HD
  (refine hK.out _ _ ⟨H1.1.i.c0, H1.1.i.c1⟩ (fun hHeld => ?_); clear hK K; try simp only [Act.put, List.setIfInBounds_toArray, List.set_cons_zero, List.set_cons_succ])
  clear H1
  refine rgT 11 (h := ?_)
  refine wpAnyH_done (by kernel_rfl) ?_ _
  clear hHeld
  clear hHeld
  go_wp2
  go_ret
  exact ⟨rfl, HH.out⟩
theorem ix_storeLink_no (w : World) (L : Lay) (Q : List Nat) (S : AS) (X : XL) (x : XS) (s : Int) (y : Int) (h : CH w L Q S X x) (hs : liv S s = false) : Calls Tryz.prog 176 #[.pointer (some ⟨X.x, 0, none⟩), .int .i64 s, .int .u64 y] w fun e w' => e = .returned (.int .i64 22) ∧ CH w' L Q (mis1 S) X x ∧ Keeps (chF L X) w w' := by
  have HD : Hid (CH w.drew L Q S X x) := h.drew
  have sx : w.drew.cell? ⟨X.x, 0, none⟩ = some (.pointer (some ⟨L.b, 0, none⟩)) ∧ w.drew.cell? ⟨X.x, 1, none⟩ = some (.int .i64 (x.cell : Int)) := ⟨HD.out.i.c0, HD.out.i.c1⟩
  have HL := arn_store_no L S w.drew Q s (x.cell : Int) y HD.out.a hs
  have HLL : Hid (∀ _ : Unit, _) := fun _ => HL
  have HF : Hid (∀ w', Arn w' L Q (mis1 S) → Keeps L.has w.drew w' → CH w' L Q (mis1 S) X x ∧ Keeps (chF L X) w w') := fun w' ha k => ⟨HD.out.arn ha k rfl, (Keeps.refl _ _).drew.trans (k.mono (fun _ e => .inl e))⟩
  clear HL h hs
  go_enter Tryz.func176, Tryz.ntmps176
  go_wp2_with fail
  (refine wp_region_held_drew (S := (fun Z => Z.cell? ⟨X.x, 0, none⟩ = some (.pointer (some ⟨L.b, 0, none⟩)) ∧ Z.cell? ⟨X.x, 1, none⟩ = some (.int .i64 (x.cell : Int)))) (by kernel_rfl) sx (fun hHeld => ?_); simp only [List.size_toArray, List.length_cons, List.length_nil, Nat.reduceAdd, Array.replicate_succ, Array.replicate_zero, List.push_toArray, List.append_toArray, List.nil_append, List.cons_append])
  clear sx
  refine rgT 0 (h := ?_)
  refine rgT 1 (h := ?_)
  refine rgT 2 (h := ?_)
  refine rgT 3 (h := ?_)
  refine rgT 4 (h := ?_)
  refine rgT 5 (h := ?_)
  refine rgT 6 (h := ?_)
  refine rgT 7 (h := ?_)
  refine rgT 8 (h := ?_)
  refine rgT 9 (h := ?_)
  (refine rgS 10 (h := fun K hK => ?_); go_simp)
  refine (HLL.out ()).mono ?_
  rintro e w1 ⟨rfl, ha, k⟩
  have H1 := HF.out w1 ha k
  have HH : Hid (CH w1 L Q (mis1 S) X x ∧ Keeps (chF L X) w w1) := H1
  clear ha k HLL HF HD
  (refine hK.out _ _ ⟨H1.1.i.c0, H1.1.i.c1⟩ (fun hHeld => ?_); clear hK K; try simp only [Act.put, List.setIfInBounds_toArray, List.set_cons_zero, List.set_cons_succ])
  clear H1
  refine rgT 11 (h := ?_)
  refine wpAnyH_done (by kernel_rfl) ?_ _
  clear hHeld
  clear hHeld
  go_wp2
  go_ret
  exact ⟨rfl, HH.out⟩
theorem ix_swapLink_hit (w : World) (L : Lay) (Q : List Nat) (S : AS) (X : XL) (x : XS) (s : Int) (u y : Int) (h : CH w L Q S X x) (hs : liv S s = true) (hu : S.word (atC S s x.cell) = u) : Calls Tryz.prog 219 #[.pointer (some ⟨X.x, 0, none⟩), .int .i64 s, .int .u64 u, .int .u64 y] w fun e w' => e = .returned (.tuple #[.bool true, .int .i64 0]) ∧ CH w' L Q (put1 S (atC S s x.cell) y) X x ∧ Keeps (chF L X) w w' := by
  have HD : Hid (CH w.drew L Q S X x) := h.drew
  have sx : w.drew.cell? ⟨X.x, 0, none⟩ = some (.pointer (some ⟨L.b, 0, none⟩)) ∧ w.drew.cell? ⟨X.x, 1, none⟩ = some (.int .i64 (x.cell : Int)) := ⟨HD.out.i.c0, HD.out.i.c1⟩
  have HL := arn_cas_hit L S w.drew Q s x.cell u y HD.out.a hs HD.out.c hu
  have HLL : Hid (∀ _ : Unit, _) := fun _ => HL
  have HF : Hid (∀ w', Arn w' L Q (put1 S (atC S s x.cell) y) → Keeps L.has w.drew w' → CH w' L Q (put1 S (atC S s x.cell) y) X x ∧ Keeps (chF L X) w w') := fun w' ha k => ⟨HD.out.arn ha k rfl, (Keeps.refl _ _).drew.trans (k.mono (fun _ e => .inl e))⟩
  clear HL h hs hu
  go_enter Tryz.func219, Tryz.ntmps219
  go_wp2_with fail
  (refine wp_region_held_drew (S := (fun Z => Z.cell? ⟨X.x, 0, none⟩ = some (.pointer (some ⟨L.b, 0, none⟩)) ∧ Z.cell? ⟨X.x, 1, none⟩ = some (.int .i64 (x.cell : Int)))) (by kernel_rfl) sx (fun hHeld => ?_); simp only [List.size_toArray, List.length_cons, List.length_nil, Nat.reduceAdd, Array.replicate_succ, Array.replicate_zero, List.push_toArray, List.append_toArray, List.nil_append, List.cons_append])
  clear sx
  refine rgT 0 (h := ?_)
  refine rgT 1 (h := ?_)
  refine rgT 2 (h := ?_)
  refine rgT 3 (h := ?_)
  refine rgT 4 (h := ?_)
  refine rgT 5 (h := ?_)
  refine rgT 6 (h := ?_)
  refine rgT 7 (h := ?_)
  refine rgT 8 (h := ?_)
  refine rgT 9 (h := ?_)
  refine rgT 10 (h := ?_)
  (refine rgS 11 (h := fun K hK => ?_); go_simp)
  refine (HLL.out ()).mono ?_
  rintro e w1 ⟨rfl, ha, k⟩
  have H1 := HF.out w1 ha k
  have HH : Hid (CH w1 L Q (put1 S (atC S s x.cell) y) X x ∧ Keeps (chF L X) w w1) := H1
  clear ha k HLL HF HD
  (refine hK.out _ _ ⟨H1.1.i.c0, H1.1.i.c1⟩ (fun hHeld => ?_); clear hK K; try simp only [Act.put, List.setIfInBounds_toArray, List.set_cons_zero, List.set_cons_succ])
  clear H1
  refine rgT 12 (h := ?_)
  refine rgT 13 (h := ?_)
  refine rgT 14 (h := ?_)
  refine rgT 15 (h := ?_)
  refine wpAnyH_done (by kernel_rfl) ?_ _
  clear hHeld
  clear hHeld
  go_wp2
  go_ret2
  exact ⟨rfl, HH.out⟩
theorem ix_swapLink_miss (w : World) (L : Lay) (Q : List Nat) (S : AS) (X : XL) (x : XS) (s : Int) (u y : Int) (h : CH w L Q S X x) (hs : liv S s = true) (hu : ¬ S.word (atC S s x.cell) = u) : Calls Tryz.prog 219 #[.pointer (some ⟨X.x, 0, none⟩), .int .i64 s, .int .u64 u, .int .u64 y] w fun e w' => e = .returned (.tuple #[.bool false, .int .i64 0]) ∧ CH w' L Q (acc1 S) X x ∧ Keeps (chF L X) w w' := by
  have HD : Hid (CH w.drew L Q S X x) := h.drew
  have sx : w.drew.cell? ⟨X.x, 0, none⟩ = some (.pointer (some ⟨L.b, 0, none⟩)) ∧ w.drew.cell? ⟨X.x, 1, none⟩ = some (.int .i64 (x.cell : Int)) := ⟨HD.out.i.c0, HD.out.i.c1⟩
  have HL := arn_cas_miss L S w.drew Q s x.cell u y HD.out.a hs HD.out.c hu
  have HLL : Hid (∀ _ : Unit, _) := fun _ => HL
  have HF : Hid (∀ w', Arn w' L Q (acc1 S) → Keeps L.has w.drew w' → CH w' L Q (acc1 S) X x ∧ Keeps (chF L X) w w') := fun w' ha k => ⟨HD.out.arn ha k rfl, (Keeps.refl _ _).drew.trans (k.mono (fun _ e => .inl e))⟩
  clear HL h hs hu
  go_enter Tryz.func219, Tryz.ntmps219
  go_wp2_with fail
  (refine wp_region_held_drew (S := (fun Z => Z.cell? ⟨X.x, 0, none⟩ = some (.pointer (some ⟨L.b, 0, none⟩)) ∧ Z.cell? ⟨X.x, 1, none⟩ = some (.int .i64 (x.cell : Int)))) (by kernel_rfl) sx (fun hHeld => ?_); simp only [List.size_toArray, List.length_cons, List.length_nil, Nat.reduceAdd, Array.replicate_succ, Array.replicate_zero, List.push_toArray, List.append_toArray, List.nil_append, List.cons_append])
  clear sx
  refine rgT 0 (h := ?_)
  refine rgT 1 (h := ?_)
  refine rgT 2 (h := ?_)
  refine rgT 3 (h := ?_)
  refine rgT 4 (h := ?_)
  refine rgT 5 (h := ?_)
  refine rgT 6 (h := ?_)
  refine rgT 7 (h := ?_)
  refine rgT 8 (h := ?_)
  refine rgT 9 (h := ?_)
  refine rgT 10 (h := ?_)
  (refine rgS 11 (h := fun K hK => ?_); go_simp)
  refine (HLL.out ()).mono ?_
  rintro e w1 ⟨rfl, ha, k⟩
  have H1 := HF.out w1 ha k
  have HH : Hid (CH w1 L Q (acc1 S) X x ∧ Keeps (chF L X) w w1) := H1
  clear ha k HLL HF HD
  (refine hK.out _ _ ⟨H1.1.i.c0, H1.1.i.c1⟩ (fun hHeld => ?_); clear hK K; try simp only [Act.put, List.setIfInBounds_toArray, List.set_cons_zero, List.set_cons_succ])
  clear H1
  refine rgT 12 (h := ?_)
  refine rgT 13 (h := ?_)
  refine rgT 14 (h := ?_)
  refine rgT 15 (h := ?_)
  refine wpAnyH_done (by kernel_rfl) ?_ _
  clear hHeld
  clear hHeld
  go_wp2
  go_ret2
  exact ⟨rfl, HH.out⟩
theorem ix_swapLink_no (w : World) (L : Lay) (Q : List Nat) (S : AS) (X : XL) (x : XS) (s : Int) (u y : Int) (h : CH w L Q S X x) (hs : liv S s = false) : Calls Tryz.prog 219 #[.pointer (some ⟨X.x, 0, none⟩), .int .i64 s, .int .u64 u, .int .u64 y] w fun e w' => e = .returned (.tuple #[.bool false, .int .i64 22]) ∧ CH w' L Q (mis1 S) X x ∧ Keeps (chF L X) w w' := by
  have HD : Hid (CH w.drew L Q S X x) := h.drew
  have sx : w.drew.cell? ⟨X.x, 0, none⟩ = some (.pointer (some ⟨L.b, 0, none⟩)) ∧ w.drew.cell? ⟨X.x, 1, none⟩ = some (.int .i64 (x.cell : Int)) := ⟨HD.out.i.c0, HD.out.i.c1⟩
  have HL := arn_cas_no L S w.drew Q s (x.cell : Int) u y HD.out.a hs
  have HLL : Hid (∀ _ : Unit, _) := fun _ => HL
  have HF : Hid (∀ w', Arn w' L Q (mis1 S) → Keeps L.has w.drew w' → CH w' L Q (mis1 S) X x ∧ Keeps (chF L X) w w') := fun w' ha k => ⟨HD.out.arn ha k rfl, (Keeps.refl _ _).drew.trans (k.mono (fun _ e => .inl e))⟩
  clear HL h hs
  go_enter Tryz.func219, Tryz.ntmps219
  go_wp2_with fail
  (refine wp_region_held_drew (S := (fun Z => Z.cell? ⟨X.x, 0, none⟩ = some (.pointer (some ⟨L.b, 0, none⟩)) ∧ Z.cell? ⟨X.x, 1, none⟩ = some (.int .i64 (x.cell : Int)))) (by kernel_rfl) sx (fun hHeld => ?_); simp only [List.size_toArray, List.length_cons, List.length_nil, Nat.reduceAdd, Array.replicate_succ, Array.replicate_zero, List.push_toArray, List.append_toArray, List.nil_append, List.cons_append])
  clear sx
  refine rgT 0 (h := ?_)
  refine rgT 1 (h := ?_)
  refine rgT 2 (h := ?_)
  refine rgT 3 (h := ?_)
  refine rgT 4 (h := ?_)
  refine rgT 5 (h := ?_)
  refine rgT 6 (h := ?_)
  refine rgT 7 (h := ?_)
  refine rgT 8 (h := ?_)
  refine rgT 9 (h := ?_)
  refine rgT 10 (h := ?_)
  (refine rgS 11 (h := fun K hK => ?_); go_simp)
  refine (HLL.out ()).mono ?_
  rintro e w1 ⟨rfl, ha, k⟩
  have H1 := HF.out w1 ha k
  have HH : Hid (CH w1 L Q (mis1 S) X x ∧ Keeps (chF L X) w w1) := H1
  clear ha k HLL HF HD
  (refine hK.out _ _ ⟨H1.1.i.c0, H1.1.i.c1⟩ (fun hHeld => ?_); clear hK K; try simp only [Act.put, List.setIfInBounds_toArray, List.set_cons_zero, List.set_cons_succ])
  clear H1
  refine rgT 12 (h := ?_)
  refine rgT 13 (h := ?_)
  refine rgT 14 (h := ?_)
  refine rgT 15 (h := ?_)
  refine wpAnyH_done (by kernel_rfl) ?_ _
  clear hHeld
  clear hHeld
  go_wp2
  go_ret2
  exact ⟨rfl, HH.out⟩
end Go.Proofs.YtdjklcmkcccpeaaGreat
