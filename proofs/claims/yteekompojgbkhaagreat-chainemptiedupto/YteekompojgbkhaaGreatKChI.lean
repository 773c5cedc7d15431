import Derived.Test.YteekompojgbkhaaGreatKChH
namespace Go.Proofs.YteekompojgbkhaaGreat
open Go.ChangeShapes Go.WideShapes Go.ChangeAt Go.RowKit Go.MuLone Go.RwLone
set_option linter.unusedVariables false
set_option maxRecDepth 100000
set_option maxHeartbeats 3200000
theorem wlk_any (w : World) (L : Lay) (Q : List Nat) (S : AS) (X : XL) (x : XS) (mb : Nat) (m : MW) (h : CH w L Q S X x) (hm : WlkH w mb X.x m) (hn : ¬ chF L X mb) (hk : WdOk S x) : Calls Tryz.prog (wlkF m.st) #[.pointer (some ⟨mb, 0, none⟩)] w (StpW w L Q X mb (wlkP S x m)) := by
  obtain ⟨st, src, own, slot, pend, ended, code⟩ := m
  match st with
  | 0 =>
    cases hb : inB x src
    · exact wlk_head_out w L Q S X x mb ⟨0, src, own, slot, pend, ended, code⟩ h hm hn rfl hk hb
    · exact wlk_head_in w L Q S X x mb ⟨0, src, own, slot, pend, ended, code⟩ h hm hn rfl hk hb
  | 1 =>
    cases hl : liv S src
    · exact wlk_loadSource_dead w L Q S X x mb ⟨1, src, own, slot, pend, ended, code⟩ h hm hn rfl hk hl
    · exact wlk_loadSource_go w L Q S X x mb ⟨1, src, own, slot, pend, ended, code⟩ h hm hn rfl hk hl
  | 2 =>
    cases hl : liv S pend
    · exact wlk_loadPending_dead w L Q S X x mb ⟨2, src, own, slot, pend, ended, code⟩ h hm hn rfl hk hl
    · exact wlk_loadPending_go w L Q S X x mb ⟨2, src, own, slot, pend, ended, code⟩ h hm hn rfl hk hl
  | n + 3 =>
    refine (wlk_leave w mb X.x _ src own slot pend ended code hm).mono ?_
    rintro e w' ⟨rfl, h2, k2⟩
    have H0 : MB w L Q S X x mb (wlkC mb X.x ⟨n + 3, src, own, slot, pend, ended, code⟩) 94 := ⟨h, hm, hn⟩
    exact ⟨rfl, (H0.own h2 k2).h, h2, kM k2⟩
theorem wlk_call0 (w : World) (mb : Nat) (r : Bool) (R : World → Prop) (c0 : w.cell? ⟨mb, 1, none⟩ = some (.func (.func 46) #[.pointer (some ⟨mb, 0, none⟩)] #[])) (HC : Calls Tryz.prog 46 #[.pointer (some ⟨mb, 0, none⟩)] w fun e w' => e = .returned (.bool r) ∧ R w') : Calls Tryz.prog 20 #[.pointer (some ⟨mb, 0, none⟩)] w fun e w' => e = .returned (.bool r) ∧ R w' := by
  have HCC : Hid (∀ _ : Unit, _) := fun _ => HC
  clear HC
  go_enter Tryz.func20, Tryz.ntmps20
  go_wp2_with fail
  refine (HCC.out ()).mono ?_
  rintro e w1 ⟨rfl, hr⟩
  have HR : Hid (R w1) := hr
  clear hr HCC c0
  go_wp2
  go_ret
  exact ⟨rfl, HR.out⟩
theorem wlk_call1 (w : World) (mb : Nat) (r : Bool) (R : World → Prop) (c0 : w.cell? ⟨mb, 1, none⟩ = some (.func (.func 185) #[.pointer (some ⟨mb, 0, none⟩)] #[])) (HC : Calls Tryz.prog 185 #[.pointer (some ⟨mb, 0, none⟩)] w fun e w' => e = .returned (.bool r) ∧ R w') : Calls Tryz.prog 20 #[.pointer (some ⟨mb, 0, none⟩)] w fun e w' => e = .returned (.bool r) ∧ R w' := by
  have HCC : Hid (∀ _ : Unit, _) := fun _ => HC
  clear HC
  go_enter Tryz.func20, Tryz.ntmps20
  go_wp2_with fail
  refine (HCC.out ()).mono ?_
  rintro e w1 ⟨rfl, hr⟩
  have HR : Hid (R w1) := hr
  clear hr HCC c0
  go_wp2
  go_ret
  exact ⟨rfl, HR.out⟩
theorem wlk_call2 (w : World) (mb : Nat) (r : Bool) (R : World → Prop) (c0 : w.cell? ⟨mb, 1, none⟩ = some (.func (.func 133) #[.pointer (some ⟨mb, 0, none⟩)] #[])) (HC : Calls Tryz.prog 133 #[.pointer (some ⟨mb, 0, none⟩)] w fun e w' => e = .returned (.bool r) ∧ R w') : Calls Tryz.prog 20 #[.pointer (some ⟨mb, 0, none⟩)] w fun e w' => e = .returned (.bool r) ∧ R w' := by
  have HCC : Hid (∀ _ : Unit, _) := fun _ => HC
  clear HC
  go_enter Tryz.func20, Tryz.ntmps20
  go_wp2_with fail
  refine (HCC.out ()).mono ?_
  rintro e w1 ⟨rfl, hr⟩
  have HR : Hid (R w1) := hr
  clear hr HCC c0
  go_wp2
  go_ret
  exact ⟨rfl, HR.out⟩
theorem wlk_call3 (w : World) (mb : Nat) (r : Bool) (R : World → Prop) (c0 : w.cell? ⟨mb, 1, none⟩ = some (.func (.func 177) #[.pointer (some ⟨mb, 0, none⟩)] #[])) (HC : Calls Tryz.prog 177 #[.pointer (some ⟨mb, 0, none⟩)] w fun e w' => e = .returned (.bool r) ∧ R w') : Calls Tryz.prog 20 #[.pointer (some ⟨mb, 0, none⟩)] w fun e w' => e = .returned (.bool r) ∧ R w' := by
  have HCC : Hid (∀ _ : Unit, _) := fun _ => HC
  clear HC
  go_enter Tryz.func20, Tryz.ntmps20
  go_wp2_with fail
  refine (HCC.out ()).mono ?_
  rintro e w1 ⟨rfl, hr⟩
  have HR : Hid (R w1) := hr
  clear hr HCC c0
  go_wp2
  go_ret
  exact ⟨rfl, HR.out⟩
theorem wlk_step (w : World) (L : Lay) (Q : List Nat) (S : AS) (X : XL) (x : XS) (mb : Nat) (m : MW) (h : CH w L Q S X x) (hm : WlkH w mb X.x m) (hn : ¬ chF L X mb) (hk : WdOk S x) : Calls Tryz.prog 20 #[.pointer (some ⟨mb, 0, none⟩)] w (StpW w L Q X mb (wlkP S x m)) := by
  obtain ⟨st, src, own, slot, pend, ended, code⟩ := m
  match st with
  | 0 => exact wlk_call0 w mb _ _ ((cell?_heap hm 1).trans rfl) (wlk_any w L Q S X x mb _ h hm hn hk)
  | 1 => exact wlk_call1 w mb _ _ ((cell?_heap hm 1).trans rfl) (wlk_any w L Q S X x mb _ h hm hn hk)
  | 2 => exact wlk_call2 w mb _ _ ((cell?_heap hm 1).trans rfl) (wlk_any w L Q S X x mb _ h hm hn hk)
  | n + 3 => exact wlk_call3 w mb _ _ ((cell?_heap hm 1).trans rfl) (wlk_any w L Q S X x mb _ h hm hn hk)
theorem wlk_Slot (w : World) (mb xb : Nat) (m : MW) (hm : WlkH w mb xb m) : Calls Tryz.prog 21 #[.pointer (some ⟨mb, 0, none⟩)] w fun e w' => e = .returned (.int .i64 m.slot) ∧ w' = w := by
  have c : w.cell? ⟨mb, 4, none⟩ = some (.int .i64 m.slot) := (cell?_heap hm 4).trans rfl
  clear hm
  go_enter Tryz.func21, Tryz.ntmps21
  go_wp2
  go_ret
  exact ⟨rfl, rfl⟩
theorem wlk_Code (w : World) (mb xb : Nat) (m : MW) (hm : WlkH w mb xb m) : Calls Tryz.prog 79 #[.pointer (some ⟨mb, 0, none⟩)] w fun e w' => e = .returned (.int .i64 m.code) ∧ w' = w := by
  have c : w.cell? ⟨mb, 7, none⟩ = some (.int .i64 m.code) := (cell?_heap hm 7).trans rfl
  clear hm
  go_enter Tryz.func79, Tryz.ntmps79
  go_wp2
  go_ret
  exact ⟨rfl, rfl⟩
theorem wlk_Ended (w : World) (mb xb : Nat) (m : MW) (hm : WlkH w mb xb m) : Calls Tryz.prog 22 #[.pointer (some ⟨mb, 0, none⟩)] w fun e w' => e = .returned (.bool m.ended) ∧ w' = w := by
  have c : w.cell? ⟨mb, 6, none⟩ = some (.bool m.ended) := (cell?_heap hm 6).trans rfl
  clear hm
  go_enter Tryz.func22, Tryz.ntmps22
  go_wp2
  go_ret
  exact ⟨rfl, rfl⟩
theorem wlk_newWalk (w : World) (xb : Nat) (src : Int) : Calls Tryz.prog 19 #[.pointer (some ⟨xb, 0, none⟩), .int .i64 src] w fun e w' => e = .returned (.pointer (some ⟨w.heap.size, 0, none⟩)) ∧ WlkH w' w.heap.size xb ⟨0, src, 0, 0, 0, false, 0⟩ ∧ Keeps (fun _ => False) w w' ∧ w'.heap.size = w.heap.size + 1 := by
  go_enter Tryz.func19, Tryz.ntmps19
  go_wp2
  go_ret
  refine ⟨rfl, ?_, ?_, ?_⟩
  · exact heap_alloc_last _ _ _ rfl
  · exact (Keeps.refl _ _).alloc _
  · simp
end Go.Proofs.YteekompojgbkhaaGreat
