import Derived.Test.YtdjklcmkcccpeaaGreatRcB
namespace Go.Proofs.YtdjklcmkcccpeaaGreat
set_option linter.unusedSimpArgs false
open Go.ChangeShapes Go.WideShapes Go.ChangeAt Go.RowKit Go.MuLone Go.RwLone
set_option linter.unusedVariables false
set_option maxRecDepth 100000
set_option maxHeartbeats 3200000
theorem ra_accesses (w : World) (R : RL) (cap : Nat) (qv : Value) (Q : List Nat) (S : AS) (h : RAr w R cap qv Q S) : Calls Tryz.prog 164 #[.pointer (some ⟨R.b, 0, none⟩)] w fun e w' => e = .returned (.int .i64 S.acc) ∧ w' = w := by
  have c3 := h.c3
  clear h
  go_enter Tryz.func164, Tryz.ntmps164
  go_wp2
  go_ret
  exact ⟨rfl, rfl⟩
theorem ra_shape (w : World) (R : RL) (cap : Nat) (qv : Value) (Q : List Nat) (S : AS) (h : RAr w R cap qv Q S) : Calls Tryz.prog 145 #[.pointer (some ⟨R.b, 0, none⟩)] w fun e w' => e = .returned (.tuple #[.int .i64 (S.n : Int), .int .i64 (S.wd : Int)]) ∧ w' = w.drew := by
  have sx : w.drew.cell? ⟨R.b, 1, none⟩ = some (.slice (some ⟨R.s, 0, none⟩) (S.n + 1) cap) ∧ w.drew.cell? ⟨R.b, 0, none⟩ = some (.int .i64 (S.wd : Int)) := ⟨h.c1, h.c0⟩
  have HWR : Hid (IntKind.i64.wrap (S.n : Int) = (S.n : Int)) := by
    show _ = _
    have := h.hn.2
    rw [IntKind.wrap_i64]
    omega
  clear h
  go_enter Tryz.func145, Tryz.ntmps145
  go_wp2_with fail
  (refine wp_region_held_drew (S := (fun Z => Z.cell? ⟨R.b, 1, none⟩ = some (.slice (some ⟨R.s, 0, none⟩) (S.n + 1) cap) ∧ Z.cell? ⟨R.b, 0, none⟩ = some (.int .i64 (S.wd : Int)))) (by kernel_rfl) sx (fun hHeld => ?_); simp only [List.size_toArray, List.length_cons, List.length_nil, Nat.reduceAdd, Array.replicate_succ, Array.replicate_zero, List.push_toArray, List.append_toArray, List.nil_append, List.cons_append])
  clear sx
  refine rgT 0 (h := ?_)
  refine rgT 1 (h := ?_)
  refine rgT 2 (h := ?_)
  refine rgT 3 (h := ?_)
  refine rgT 4 (h := ?_)
  refine rgT 5 (h := ?_)
  refine rgT 6 (h := ?_)
  refine rgT 7 (h := ?_)
  refine rgT 8 (h := ?_)
  refine rgT 9 (h := ?_)
  refine rgT 10 (h := ?_)
  refine rgT 11 (h := ?_)
  refine wpAnyH_done (by kernel_rfl) ?_ _
  clear hHeld
  rw [HWR.out]
  clear HWR
  go_wp2
  go_ret2
  exact ⟨rfl, rfl⟩
end Go.Proofs.YtdjklcmkcccpeaaGreat
