import Derived.Test.YtegnmflbbpfdhaaGreatSdO
namespace Go.Proofs.YtegnmflbbpfdhaaGreat
open Go.ChangeShapes Go.WideShapes Go.ChangeAt Go.RowKit Go.MuLone Go.RwLone
set_option linter.unusedVariables false
set_option maxRecDepth 100000
set_option maxHeartbeats 3200000
theorem drain_any (w : World) (A : Ad) (x0 : Int) (dn : Nat → Bool) (hA : Ly A) (h : Bn w A x0 dn) (h0 : 0 ≤ x0) (h1 : x0 < 18446744073709551616) (bd : Nat) (hl : left dn A.n ≤ bd) (hm : bd ≤ 1000000) :
    Calls Tryz.prog 21 #[.pointer (some ⟨A.hb, 0, none⟩), .int .i64 (bd : Int)] w fun e w' => ∃ r dn', e = .returned (.tuple #[.int .i64 r, .int .i64 0]) ∧ Bn w' A x0 dn' ∧ Fm A w w' ∧ ∀ i, i < A.n → dn' i = true := by
  have HP : Hid (Bn (pkW w 6 0 0) A x0 dn ∧ Fm A w (pkW w 6 0 0)) := ⟨h.still hA ((Keeps.refl _ _).alloc _), Fm.still ((Keeps.refl _ _).alloc _)⟩
  have HV : Hid (PkS (pkW w 6 0 0) A (.slice (some ⟨w.heap.size, 0, none⟩) 1 1) [(6, 0, 0)]) :=
    ⟨some ⟨w.heap.size, 0, none⟩, 1, rfl, by simp, by simp, fun i hi => by
      have : i = 0 := by simpa using hi
      subst this
      exact ⟨w.heap.size, 0, _, (0, 0), rfl, h.size, heap_alloc_last _ _ _ rfl, rfl, rfl, rfl⟩⟩
  have HA : Hid (Ly A) := hA
  clear h hA
  go_enter Tryz.func21, Tryz.ntmps21
  go_wp2_with fail
  refine (play_any (pkW w 6 0 0) A x0 dn HA.out HP.out.1 h0 h1 bd hl hm _ [(6, 0, 0)] HV.out).mono ?_
  rintro e w1 ⟨r, d, rfl, b, f, m, a⟩
  have HR : Hid (Bn w1 A x0 d ∧ Fm A w w1 ∧ ∀ i, i < A.n → d i = true) := ⟨b, HP.out.2.trans f, a ⟨_, List.mem_singleton.2 rfl, rfl⟩⟩
  clear b f m a HP HV
  go_wp2
  go_ret2
  exact ⟨r, d, rfl, HR.out⟩
end Go.Proofs.YtegnmflbbpfdhaaGreat
