import Derived.Test.YteekompojgbkhaaGreatKChE
namespace Go.Proofs.YteekompojgbkhaaGreat
open Go.ChangeShapes Go.WideShapes Go.ChangeAt Go.RowKit Go.MuLone Go.RwLone
set_option linter.unusedVariables false
set_option maxRecDepth 100000
set_option maxHeartbeats 3200000
theorem ins_any (w : World) (L : Lay) (Q : List Nat) (S : AS) (X : XL) (x : XS) (mb : Nat) (m : MI) (h : CH w L Q S X x) (hm : InsH w mb X.x m) (hn : ¬ chF L X mb) (ho : insOk x m) : Calls Tryz.prog (insF m.st) #[.pointer (some ⟨mb, 0, none⟩)] w (StpI w L Q X mb (insP S x m)) := by
  obtain ⟨st, co, bu, sl, hd, tr⟩ := m
  match st with
  | 0 =>
    cases hb : inB x bu
    · exact ins_begin_out w L Q S X x mb ⟨0, co, bu, sl, hd, tr⟩ h hm hn rfl hb
    · cases hl : liv S sl
      · exact ins_begin_dead w L Q S X x mb ⟨0, co, bu, sl, hd, tr⟩ h hm hn rfl hb hl
      · by_cases hw : S.word (atC S sl x.cell) = 0
        · exact ins_begin_go w L Q S X x mb ⟨0, co, bu, sl, hd, tr⟩ h hm hn rfl hb hl hw
        · exact ins_begin_full w L Q S X x mb ⟨0, co, bu, sl, hd, tr⟩ h hm hn rfl hb hl hw
  | 1 => exact ins_loadHead w L Q S X x mb ⟨1, co, bu, sl, hd, tr⟩ h hm hn rfl (ho (by show 1 ≤ 1; omega) (by show 1 ≤ 3; omega)).1
  | 2 =>
    cases hl : liv S sl
    · exact ins_store_dead w L Q S X x mb ⟨2, co, bu, sl, hd, tr⟩ h hm hn rfl hl
    · exact ins_store_go w L Q S X x mb ⟨2, co, bu, sl, hd, tr⟩ h hm hn rfl hl
  | 3 =>
    obtain ⟨o1, o2, o3⟩ := ho (by show 1 ≤ 3; omega) (by show 3 ≤ 3; omega)
    by_cases hu : x.hd bu.toNat = hd
    · exact ins_swap_hit w L Q S X x mb ⟨3, co, bu, sl, hd, tr⟩ h hm hn rfl o1 o2 o3 hu
    · exact ins_swap_miss w L Q S X x mb ⟨3, co, bu, sl, hd, tr⟩ h hm hn rfl o1 o2 o3 hu
  | n + 4 =>
    refine (ins_rest w mb).mono ?_
    rintro e w' ⟨rfl, rfl⟩
    exact ⟨rfl, h, hm, Keeps.refl _ _⟩
theorem ins_call0 (w : World) (mb : Nat) (r : Bool) (R : World → Prop) (c0 : w.cell? ⟨mb, 0, none⟩ = some (.func (.func 48) #[.pointer (some ⟨mb, 0, none⟩)] #[])) (HC : Calls Tryz.prog 48 #[.pointer (some ⟨mb, 0, none⟩)] w fun e w' => e = .returned (.bool r) ∧ R w') : Calls Tryz.prog 73 #[.pointer (some ⟨mb, 0, none⟩)] w fun e w' => e = .returned (.bool r) ∧ R w' := by
  have HCC : Hid (∀ _ : Unit, _) := fun _ => HC
  clear HC
  go_enter Tryz.func73, Tryz.ntmps73
  go_wp2_with fail
  refine (HCC.out ()).mono ?_
  rintro e w1 ⟨rfl, hr⟩
  have HR : Hid (R w1) := hr
  clear hr HCC c0
  go_wp2
  go_ret
  exact ⟨rfl, HR.out⟩
theorem ins_call1 (w : World) (mb : Nat) (r : Bool) (R : World → Prop) (c0 : w.cell? ⟨mb, 0, none⟩ = some (.func (.func 90) #[.pointer (some ⟨mb, 0, none⟩)] #[])) (HC : Calls Tryz.prog 90 #[.pointer (some ⟨mb, 0, none⟩)] w fun e w' => e = .returned (.bool r) ∧ R w') : Calls Tryz.prog 73 #[.pointer (some ⟨mb, 0, none⟩)] w fun e w' => e = .returned (.bool r) ∧ R w' := by
  have HCC : Hid (∀ _ : Unit, _) := fun _ => HC
  clear HC
  go_enter Tryz.func73, Tryz.ntmps73
  go_wp2_with fail
  refine (HCC.out ()).mono ?_
  rintro e w1 ⟨rfl, hr⟩
  have HR : Hid (R w1) := hr
  clear hr HCC c0
  go_wp2
  go_ret
  exact ⟨rfl, HR.out⟩
theorem ins_call2 (w : World) (mb : Nat) (r : Bool) (R : World → Prop) (c0 : w.cell? ⟨mb, 0, none⟩ = some (.func (.func 136) #[.pointer (some ⟨mb, 0, none⟩)] #[])) (HC : Calls Tryz.prog 136 #[.pointer (some ⟨mb, 0, none⟩)] w fun e w' => e = .returned (.bool r) ∧ R w') : Calls Tryz.prog 73 #[.pointer (some ⟨mb, 0, none⟩)] w fun e w' => e = .returned (.bool r) ∧ R w' := by
  have HCC : Hid (∀ _ : Unit, _) := fun _ => HC
  clear HC
  go_enter Tryz.func73, Tryz.ntmps73
  go_wp2_with fail
  refine (HCC.out ()).mono ?_
  rintro e w1 ⟨rfl, hr⟩
  have HR : Hid (R w1) := hr
  clear hr HCC c0
  go_wp2
  go_ret
  exact ⟨rfl, HR.out⟩
theorem ins_call3 (w : World) (mb : Nat) (r : Bool) (R : World → Prop) (c0 : w.cell? ⟨mb, 0, none⟩ = some (.func (.func 181) #[.pointer (some ⟨mb, 0, none⟩)] #[])) (HC : Calls Tryz.prog 181 #[.pointer (some ⟨mb, 0, none⟩)] w fun e w' => e = .returned (.bool r) ∧ R w') : Calls Tryz.prog 73 #[.pointer (some ⟨mb, 0, none⟩)] w fun e w' => e = .returned (.bool r) ∧ R w' := by
  have HCC : Hid (∀ _ : Unit, _) := fun _ => HC
  clear HC
  go_enter Tryz.func73, Tryz.ntmps73
  go_wp2_with fail
  refine (HCC.out ()).mono ?_
  rintro e w1 ⟨rfl, hr⟩
  have HR : Hid (R w1) := hr
  clear hr HCC c0
  go_wp2
  go_ret
  exact ⟨rfl, HR.out⟩
theorem ins_call4 (w : World) (mb : Nat) (r : Bool) (R : World → Prop) (c0 : w.cell? ⟨mb, 0, none⟩ = some (.func (.func 134) #[.pointer (some ⟨mb, 0, none⟩)] #[])) (HC : Calls Tryz.prog 134 #[.pointer (some ⟨mb, 0, none⟩)] w fun e w' => e = .returned (.bool r) ∧ R w') : Calls Tryz.prog 73 #[.pointer (some ⟨mb, 0, none⟩)] w fun e w' => e = .returned (.bool r) ∧ R w' := by
  have HCC : Hid (∀ _ : Unit, _) := fun _ => HC
  clear HC
  go_enter Tryz.func73, Tryz.ntmps73
  go_wp2_with fail
  refine (HCC.out ()).mono ?_
  rintro e w1 ⟨rfl, hr⟩
  have HR : Hid (R w1) := hr
  clear hr HCC c0
  go_wp2
  go_ret
  exact ⟨rfl, HR.out⟩
theorem ins_step (w : World) (L : Lay) (Q : List Nat) (S : AS) (X : XL) (x : XS) (mb : Nat) (m : MI) (h : CH w L Q S X x) (hm : InsH w mb X.x m) (hn : ¬ chF L X mb) (ho : insOk x m) : Calls Tryz.prog 73 #[.pointer (some ⟨mb, 0, none⟩)] w (StpI w L Q X mb (insP S x m)) := by
  obtain ⟨st, co, bu, sl, hd, tr⟩ := m
  match st with
  | 0 => exact ins_call0 w mb _ _ ((cell?_heap hm 0).trans rfl) (ins_any w L Q S X x mb _ h hm hn ho)
  | 1 => exact ins_call1 w mb _ _ ((cell?_heap hm 0).trans rfl) (ins_any w L Q S X x mb _ h hm hn ho)
  | 2 => exact ins_call2 w mb _ _ ((cell?_heap hm 0).trans rfl) (ins_any w L Q S X x mb _ h hm hn ho)
  | 3 => exact ins_call3 w mb _ _ ((cell?_heap hm 0).trans rfl) (ins_any w L Q S X x mb _ h hm hn ho)
  | n + 4 => exact ins_call4 w mb _ _ ((cell?_heap hm 0).trans rfl) (ins_any w L Q S X x mb _ h hm hn ho)
theorem ins_Code (w : World) (mb xb : Nat) (m : MI) (hm : InsH w mb xb m) : Calls Tryz.prog 74 #[.pointer (some ⟨mb, 0, none⟩)] w fun e w' => e = .returned (.int .i64 m.code) ∧ w' = w := by
  have c : w.cell? ⟨mb, 1, none⟩ = some (.int .i64 m.code) := (cell?_heap hm 1).trans rfl
  clear hm
  go_enter Tryz.func74, Tryz.ntmps74
  go_wp2
  go_ret
  exact ⟨rfl, rfl⟩
theorem ins_new (w : World) (xb : Nat) (bu sl : Int) : Calls Tryz.prog 25 #[.pointer (some ⟨xb, 0, none⟩), .int .i64 bu, .int .i64 sl] w fun e w' => e = .returned (.pointer (some ⟨w.heap.size, 0, none⟩)) ∧ InsH w' w.heap.size xb ⟨0, 0, bu, sl, 0, 0⟩ ∧ Keeps (fun _ => False) w w' ∧ w'.heap.size = w.heap.size + 1 := by
  go_enter Tryz.func25, Tryz.ntmps25
  go_wp2
  go_ret
  refine ⟨rfl, ?_, ?_, ?_⟩
  · exact heap_alloc_last _ _ _ rfl
  · exact (Keeps.refl _ _).alloc _
  · simp
end Go.Proofs.YteekompojgbkhaaGreat
