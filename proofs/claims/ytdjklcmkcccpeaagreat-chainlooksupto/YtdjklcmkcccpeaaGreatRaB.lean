import Derived.Test.YtdjklcmkcccpeaaGreatRaA
namespace Go.Proofs.YtdjklcmkcccpeaaGreat
open Go.ChangeShapes Go.WideShapes Go.ChangeAt Go.RowKit Go.MuLone Go.RwLone
set_option linter.unusedVariables false
set_option maxRecDepth 100000
set_option maxHeartbeats 3200000
theorem ra_reach (w : World) (R : RL) (cap : Nat) (qv : Value) (Q : List Nat) (S : AS) (x : Int) (j : Nat) (h : RAr w R cap qv Q S) (hx : liv S x = true) (hj : j < S.wd) : Calls Tryz.prog 221 #[.pointer (some ⟨R.b, 0, none⟩), .int .i64 x, .int .i64 (j : Int)] w fun e w' => e = .returned (.int .i64 0) ∧ w' = w := by
  have HU := ra_used w R cap qv Q S x h
  rw [hx] at HU
  have HUU : Hid (∀ _ : Unit, _) := fun _ => HU
  have c0 := h.c0
  have hw := h.hw.2
  have j0 : (0 : Int) ≤ (j : Int) := Int.natCast_nonneg _
  have j1 : (j : Int) < (S.wd : Int) := by omega
  clear HU h hx
  go_enter Tryz.func221, Tryz.ntmps221
  go_wp2_with fail
  refine (HUU.out ()).mono ?_
  rintro e w1 ⟨rfl, hw1⟩
  rw [hw1]
  clear hw1 w1 HUU
  go_wp2
  go_ret
  exact ⟨rfl, rfl⟩
theorem ra_reach_no (w : World) (R : RL) (cap : Nat) (qv : Value) (Q : List Nat) (S : AS) (x y : Int) (h : RAr w R cap qv Q S) (hx : liv S x = false) : Calls Tryz.prog 221 #[.pointer (some ⟨R.b, 0, none⟩), .int .i64 x, .int .i64 y] w fun e w' => e = .returned (.int .i64 22) ∧ RAr w' R cap qv Q (mis1 S) ∧ Keeps (raF R qv S) w w' := by
  have HU := ra_used w R cap qv Q S x h
  rw [hx] at HU
  have HUU : Hid (∀ _ : Unit, _) := fun _ => HU
  have HM : Hid (∀ _ : Unit, _) := fun _ => ra_missed w R cap qv Q S h
  clear HU h hx
  go_enter Tryz.func221, Tryz.ntmps221
  go_wp2_with fail
  refine (HUU.out ()).mono ?_
  rintro e w1 ⟨rfl, hw1⟩
  rw [hw1]
  clear hw1 w1 HUU
  go_wp2_with fail
  refine (HM.out ()).mono ?_
  rintro e w2 ⟨rfl, h2, k2⟩
  have H2 : Hid (RAr w2 R cap qv Q (mis1 S) ∧ Keeps (raF R qv S) w w2) := ⟨h2, k2.mono (fun _ e => .inl e)⟩
  clear h2 k2 HM
  go_wp2
  go_ret
  exact ⟨rfl, H2.out⟩
theorem ra_load_no (w : World) (R : RL) (cap : Nat) (qv : Value) (Q : List Nat) (S : AS) (x z : Int) (h : RAr w R cap qv Q S) (hx : liv S x = false) : Calls Tryz.prog 192 #[.pointer (some ⟨R.b, 0, none⟩), .int .i64 x, .int .i64 z] w fun e w' => e = .returned (.tuple #[.int .u64 0, .int .i64 22]) ∧ RAr w' R cap qv Q (mis1 S) ∧ Keeps (raF R qv S) w w' := by
  have HR : Hid (∀ _ : Unit, _) := fun _ => ra_reach_no w R cap qv Q S x z h hx
  clear h hx
  go_enter Tryz.func192, Tryz.ntmps192
  go_wp2_with fail
  refine (HR.out ()).mono ?_
  rintro e w1 ⟨rfl, h1, k1⟩
  have H1 : Hid (RAr w1 R cap qv Q (mis1 S) ∧ Keeps (raF R qv S) w w1) := ⟨h1, k1⟩
  clear h1 k1 HR
  go_wp2
  go_ret2
  exact ⟨rfl, H1.out⟩
theorem ra_store_no (w : World) (R : RL) (cap : Nat) (qv : Value) (Q : List Nat) (S : AS) (x z : Int) (y : Int) (h : RAr w R cap qv Q S) (hx : liv S x = false) : Calls Tryz.prog 194 #[.pointer (some ⟨R.b, 0, none⟩), .int .i64 x, .int .i64 z, .int .u64 y] w fun e w' => e = .returned (.int .i64 22) ∧ RAr w' R cap qv Q (mis1 S) ∧ Keeps (raF R qv S) w w' := by
  have HR : Hid (∀ _ : Unit, _) := fun _ => ra_reach_no w R cap qv Q S x z h hx
  clear h hx
  go_enter Tryz.func194, Tryz.ntmps194
  go_wp2_with fail
  refine (HR.out ()).mono ?_
  rintro e w1 ⟨rfl, h1, k1⟩
  have H1 : Hid (RAr w1 R cap qv Q (mis1 S) ∧ Keeps (raF R qv S) w w1) := ⟨h1, k1⟩
  clear h1 k1 HR
  go_wp2
  go_ret
  exact ⟨rfl, H1.out⟩
theorem ra_cas_no (w : World) (R : RL) (cap : Nat) (qv : Value) (Q : List Nat) (S : AS) (x z : Int) (u y : Int) (h : RAr w R cap qv Q S) (hx : liv S x = false) : Calls Tryz.prog 202 #[.pointer (some ⟨R.b, 0, none⟩), .int .i64 x, .int .i64 z, .int .u64 u, .int .u64 y] w fun e w' => e = .returned (.tuple #[.bool false, .int .i64 22]) ∧ RAr w' R cap qv Q (mis1 S) ∧ Keeps (raF R qv S) w w' := by
  have HR : Hid (∀ _ : Unit, _) := fun _ => ra_reach_no w R cap qv Q S x z h hx
  clear h hx
  go_enter Tryz.func202, Tryz.ntmps202
  go_wp2_with fail
  refine (HR.out ()).mono ?_
  rintro e w1 ⟨rfl, h1, k1⟩
  have H1 : Hid (RAr w1 R cap qv Q (mis1 S) ∧ Keeps (raF R qv S) w w1) := ⟨h1, k1⟩
  clear h1 k1 HR
  go_wp2
  go_ret2
  exact ⟨rfl, H1.out⟩
theorem ra_load (w : World) (R : RL) (cap : Nat) (qv : Value) (Q : List Nat) (S : AS) (x : Int) (j : Nat) (h : RAr w R cap qv Q S) (hx : liv S x = true) (hj : j < S.wd) (v : Int) (hv : S.word (atC S x j) = v) : Calls Tryz.prog 192 #[.pointer (some ⟨R.b, 0, none⟩), .int .i64 x, .int .i64 (j : Int)] w fun e w' => e = .returned (.tuple #[.int .u64 v, .int .i64 0]) ∧ RAr w' R cap qv Q (acc1 S) ∧ Keeps (raF R qv S) w w' := by
  have HR : Hid (∀ _ : Unit, _) := fun _ => ra_reach w R cap qv Q S x j h hx hj
  obtain ⟨k, hk, hxk, hu⟩ := liv_yes hx
  subst hxk
  rw [atC_of] at hv
  have c3 := h.c3
  have f3 := h.fb 3
  have hz := h.hn.2
  have hwd := h.hw.2
  have H1 : Hid (RAr (w.setCell ⟨R.b, 3, none⟩ (.int .i64 (wrap64 (S.acc + 1)))) R cap qv Q (acc1 S) ∧ Keeps (raF R qv S) w (w.setCell ⟨R.b, 3, none⟩ (.int .i64 (wrap64 (S.acc + 1))))) := ⟨h.setCount 3 _ _ (.inl ⟨rfl, rfl⟩), setB.mono (fun _ e => .inl e)⟩
  have c1 : (w.setCell ⟨R.b, 3, none⟩ (.int .i64 (wrap64 (S.acc + 1)))).cell? ⟨R.b, 1, none⟩ = some (.slice (some ⟨R.s, 0, none⟩) (S.n + 1) cap) := H1.out.1.c1
  have wy : (w.setCell ⟨R.b, 3, none⟩ (.int .i64 (wrap64 (S.acc + 1)))).cell? ⟨R.s, (k + 1) * 6 + 4, none⟩ = some (.slice (some ⟨R.wb k, 0, none⟩) S.wd S.wd) := H1.out.1.wy k hk hu
  have wo : (w.setCell ⟨R.b, 3, none⟩ (.int .i64 (wrap64 (S.acc + 1)))).cell? ⟨R.wb k, j, none⟩ = some (.int .u64 v) := by rw [← hv]; exact H1.out.1.wo k hk hu j hj
  have fw := H1.out.1.fw k hk hu j
  have k0 : (0 : Int) ≤ (k : Int) + 1 := by omega
  have k1 : (k : Int) + 1 < (S.n : Int) + 1 := by omega
  have j0 : (0 : Int) ≤ (j : Int) := Int.natCast_nonneg _
  have j1 : (j : Int) < (S.wd : Int) := by omega
  clear h hx
  go_enter Tryz.func192, Tryz.ntmps192
  go_wp2_with fail
  refine (HR.out ()).mono ?_
  rintro e w1 ⟨rfl, hw1⟩
  rw [hw1]
  clear hw1 w1 HR
  go_wp2
  go_ret2
  exact ⟨rfl, H1.out⟩
theorem ra_store (w : World) (R : RL) (cap : Nat) (qv : Value) (Q : List Nat) (S : AS) (x : Int) (j : Nat) (y : Int) (h : RAr w R cap qv Q S) (hx : liv S x = true) (hj : j < S.wd) : Calls Tryz.prog 194 #[.pointer (some ⟨R.b, 0, none⟩), .int .i64 x, .int .i64 (j : Int), .int .u64 y] w fun e w' => e = .returned (.int .i64 0) ∧ RAr w' R cap qv Q (put1 S (atC S x j) y) ∧ Keeps (raF R qv S) w w' := by
  have HR : Hid (∀ _ : Unit, _) := fun _ => ra_reach w R cap qv Q S x j h hx hj
  obtain ⟨k, hk, hxk, hu⟩ := liv_yes hx
  subst hxk
  rw [atC_of]
  have c3 := h.c3
  have f3 := h.fb 3
  have hz := h.hn.2
  have hwd := h.hw.2
  have H1 : Hid (RAr (w.setCell ⟨R.b, 3, none⟩ (.int .i64 (wrap64 (S.acc + 1)))) R cap qv Q (acc1 S) ∧ Keeps (raF R qv S) w (w.setCell ⟨R.b, 3, none⟩ (.int .i64 (wrap64 (S.acc + 1))))) := ⟨h.setCount 3 _ _ (.inl ⟨rfl, rfl⟩), setB.mono (fun _ e => .inl e)⟩
  have c1 : (w.setCell ⟨R.b, 3, none⟩ (.int .i64 (wrap64 (S.acc + 1)))).cell? ⟨R.b, 1, none⟩ = some (.slice (some ⟨R.s, 0, none⟩) (S.n + 1) cap) := H1.out.1.c1
  have wy : (w.setCell ⟨R.b, 3, none⟩ (.int .i64 (wrap64 (S.acc + 1)))).cell? ⟨R.s, (k + 1) * 6 + 4, none⟩ = some (.slice (some ⟨R.wb k, 0, none⟩) S.wd S.wd) := H1.out.1.wy k hk hu
  have wo : (w.setCell ⟨R.b, 3, none⟩ (.int .i64 (wrap64 (S.acc + 1)))).cell? ⟨R.wb k, j, none⟩ = some (.int .u64 (S.word (k * S.wd + j))) := H1.out.1.wo k hk hu j hj
  have fw := H1.out.1.fw k hk hu j
  have k0 : (0 : Int) ≤ (k : Int) + 1 := by omega
  have k1 : (k : Int) + 1 < (S.n : Int) + 1 := by omega
  have j0 : (0 : Int) ≤ (j : Int) := Int.natCast_nonneg _
  have j1 : (j : Int) < (S.wd : Int) := by omega
  have H2 : Hid (RAr ((w.setCell ⟨R.b, 3, none⟩ (.int .i64 (wrap64 (S.acc + 1)))).setCell ⟨R.wb k, j, none⟩ (.int .u64 y)) R cap qv Q (put1 S (k * S.wd + j) y) ∧ Keeps (raF R qv S) w ((w.setCell ⟨R.b, 3, none⟩ (.int .i64 (wrap64 (S.acc + 1)))).setCell ⟨R.wb k, j, none⟩ (.int .u64 y))) := ⟨H1.out.1.setWord k j hk hu hj y, H1.out.2.trans (setB.mono (fun _ e => .inr (.inr (.inl ⟨k, hk, hu, e⟩))))⟩
  clear H1
  clear h hx
  go_enter Tryz.func194, Tryz.ntmps194
  go_wp2_with fail
  refine (HR.out ()).mono ?_
  rintro e w1 ⟨rfl, hw1⟩
  rw [hw1]
  clear hw1 w1 HR
  go_wp2
  go_ret
  exact ⟨rfl, H2.out⟩
theorem ra_cas_hit (w : World) (R : RL) (cap : Nat) (qv : Value) (Q : List Nat) (S : AS) (x : Int) (j : Nat) (v y : Int) (h : RAr w R cap qv Q S) (hx : liv S x = true) (hj : j < S.wd) (hv : S.word (atC S x j) = v) : Calls Tryz.prog 202 #[.pointer (some ⟨R.b, 0, none⟩), .int .i64 x, .int .i64 (j : Int), .int .u64 v, .int .u64 y] w fun e w' => e = .returned (.tuple #[.bool true, .int .i64 0]) ∧ RAr w' R cap qv Q (put1 S (atC S x j) y) ∧ Keeps (raF R qv S) w w' := by
  have HR : Hid (∀ _ : Unit, _) := fun _ => ra_reach w R cap qv Q S x j h hx hj
  obtain ⟨k, hk, hxk, hu⟩ := liv_yes hx
  subst hxk
  rw [atC_of] at hv ⊢
  have c3 := h.c3
  have f3 := h.fb 3
  have hz := h.hn.2
  have hwd := h.hw.2
  have H1 : Hid (RAr (w.setCell ⟨R.b, 3, none⟩ (.int .i64 (wrap64 (S.acc + 1)))) R cap qv Q (acc1 S) ∧ Keeps (raF R qv S) w (w.setCell ⟨R.b, 3, none⟩ (.int .i64 (wrap64 (S.acc + 1))))) := ⟨h.setCount 3 _ _ (.inl ⟨rfl, rfl⟩), setB.mono (fun _ e => .inl e)⟩
  have c1 : (w.setCell ⟨R.b, 3, none⟩ (.int .i64 (wrap64 (S.acc + 1)))).cell? ⟨R.b, 1, none⟩ = some (.slice (some ⟨R.s, 0, none⟩) (S.n + 1) cap) := H1.out.1.c1
  have wy : (w.setCell ⟨R.b, 3, none⟩ (.int .i64 (wrap64 (S.acc + 1)))).cell? ⟨R.s, (k + 1) * 6 + 4, none⟩ = some (.slice (some ⟨R.wb k, 0, none⟩) S.wd S.wd) := H1.out.1.wy k hk hu
  have wo : (w.setCell ⟨R.b, 3, none⟩ (.int .i64 (wrap64 (S.acc + 1)))).cell? ⟨R.wb k, j, none⟩ = some (.int .u64 v) := by rw [← hv]; exact H1.out.1.wo k hk hu j hj
  have fw := H1.out.1.fw k hk hu j
  have k0 : (0 : Int) ≤ (k : Int) + 1 := by omega
  have k1 : (k : Int) + 1 < (S.n : Int) + 1 := by omega
  have j0 : (0 : Int) ≤ (j : Int) := Int.natCast_nonneg _
  have j1 : (j : Int) < (S.wd : Int) := by omega
  have H2 : Hid (RAr ((w.setCell ⟨R.b, 3, none⟩ (.int .i64 (wrap64 (S.acc + 1)))).setCell ⟨R.wb k, j, none⟩ (.int .u64 y)) R cap qv Q (put1 S (k * S.wd + j) y) ∧ Keeps (raF R qv S) w ((w.setCell ⟨R.b, 3, none⟩ (.int .i64 (wrap64 (S.acc + 1)))).setCell ⟨R.wb k, j, none⟩ (.int .u64 y))) := ⟨H1.out.1.setWord k j hk hu hj y, H1.out.2.trans (setB.mono (fun _ e => .inr (.inr (.inl ⟨k, hk, hu, e⟩))))⟩
  clear H1
  clear h hx
  go_enter Tryz.func202, Tryz.ntmps202
  go_wp2_with fail
  refine (HR.out ()).mono ?_
  rintro e w1 ⟨rfl, hw1⟩
  rw [hw1]
  clear hw1 w1 HR
  go_wp2
  go_ret2
  exact ⟨rfl, H2.out⟩
theorem ra_cas_miss (w : World) (R : RL) (cap : Nat) (qv : Value) (Q : List Nat) (S : AS) (x : Int) (j : Nat) (u y : Int) (h : RAr w R cap qv Q S) (hx : liv S x = true) (hj : j < S.wd) (v : Int) (hv : S.word (atC S x j) = v) (hne : ¬ v = u) : Calls Tryz.prog 202 #[.pointer (some ⟨R.b, 0, none⟩), .int .i64 x, .int .i64 (j : Int), .int .u64 u, .int .u64 y] w fun e w' => e = .returned (.tuple #[.bool false, .int .i64 0]) ∧ RAr w' R cap qv Q (acc1 S) ∧ Keeps (raF R qv S) w w' := by
  have HR : Hid (∀ _ : Unit, _) := fun _ => ra_reach w R cap qv Q S x j h hx hj
  obtain ⟨k, hk, hxk, hu⟩ := liv_yes hx
  subst hxk
  rw [atC_of] at hv
  have c3 := h.c3
  have f3 := h.fb 3
  have hz := h.hn.2
  have hwd := h.hw.2
  have H1 : Hid (RAr (w.setCell ⟨R.b, 3, none⟩ (.int .i64 (wrap64 (S.acc + 1)))) R cap qv Q (acc1 S) ∧ Keeps (raF R qv S) w (w.setCell ⟨R.b, 3, none⟩ (.int .i64 (wrap64 (S.acc + 1))))) := ⟨h.setCount 3 _ _ (.inl ⟨rfl, rfl⟩), setB.mono (fun _ e => .inl e)⟩
  have c1 : (w.setCell ⟨R.b, 3, none⟩ (.int .i64 (wrap64 (S.acc + 1)))).cell? ⟨R.b, 1, none⟩ = some (.slice (some ⟨R.s, 0, none⟩) (S.n + 1) cap) := H1.out.1.c1
  have wy : (w.setCell ⟨R.b, 3, none⟩ (.int .i64 (wrap64 (S.acc + 1)))).cell? ⟨R.s, (k + 1) * 6 + 4, none⟩ = some (.slice (some ⟨R.wb k, 0, none⟩) S.wd S.wd) := H1.out.1.wy k hk hu
  have wo : (w.setCell ⟨R.b, 3, none⟩ (.int .i64 (wrap64 (S.acc + 1)))).cell? ⟨R.wb k, j, none⟩ = some (.int .u64 v) := by rw [← hv]; exact H1.out.1.wo k hk hu j hj
  have fw := H1.out.1.fw k hk hu j
  have k0 : (0 : Int) ≤ (k : Int) + 1 := by omega
  have k1 : (k : Int) + 1 < (S.n : Int) + 1 := by omega
  have j0 : (0 : Int) ≤ (j : Int) := Int.natCast_nonneg _
  have j1 : (j : Int) < (S.wd : Int) := by omega
  have hne2 : (v != u) = true := by simp [hne]
  clear h hx
  go_enter Tryz.func202, Tryz.ntmps202
  go_wp2_with fail
  refine (HR.out ()).mono ?_
  rintro e w1 ⟨rfl, hw1⟩
  rw [hw1]
  clear hw1 w1 HR
  go_wp2
  go_ret2
  exact ⟨rfl, H1.out⟩
end Go.Proofs.YtdjklcmkcccpeaaGreat
