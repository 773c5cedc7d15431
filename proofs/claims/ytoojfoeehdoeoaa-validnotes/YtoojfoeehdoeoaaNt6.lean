import Derived.Test.YtoojfoeehdoeoaaNt5
import Derived.Test.YtoojfoeehdoeoaaRegG
namespace Go.Proofs.Ytoojfoeehdoeoaa
set_option linter.unusedSimpArgs false
open Go.ChangeShapes Go.WideShapes Go.ChangeAt Go.RowKit Go.Maps
set_option linter.unusedVariables false
set_option maxRecDepth 100000
theorem OnR.look {w : World} {g o : Nat} {v : Value} {m : Option Nat} {F : Nat → Prop} {xs : List R2} (h : OnR w g o v m F xs) {x : R2} (hx : okR x) (hxs : ∀ y ∈ xs, okR y) :
    (Instr.lookup 39 (.map m) (.agg #[.string x.1, .string x.2]) true).run Try.prog w = .ok (.tuple #[.agg #[], .bool (isInR xs x)]) w := by
  rcases h.map with ⟨rfl, rfl⟩ | ⟨mb, rfl, hF, hne, hown⟩
  · have hn := Maps.look_nil (P := Try.prog) (w := w) true lawR Try.underlying39 (zeroU w) (litR_of hx)
    exact hn
  · obtain ⟨u, ps, hrun, hu⟩ := hown.look_ok lawR Try.underlying39 (zeroU w) (zd := .agg []) (zp := []) unitElem_mk (litR_of hx)
    obtain ⟨rfl, _⟩ := unitElem_inv hu
    rw [has_litR xs x hx hxs] at hrun
    exact hrun
set_option maxHeartbeats 1600000 in
theorem hasR_any (w : World) (g o : Nat) (v : Value) (m : Option Nat) (F : Nat → Prop) (xs : List R2) (x : R2) (h : OnR w g o v m F xs) (hx : okR x) (hxs : ∀ y ∈ xs, okR y) :
    Calls Try.prog 26 #[.pointer (some ⟨g, o, none⟩), .agg #[.string x.1, .string x.2]] w fun e w' => e = .returned (.bool (isInR xs x)) ∧ Below w.heap.size w w' := by
  obtain ⟨a, b⟩ := x
  have hb1 : Below w.heap.size w (w.alloc (.cells #[.string a, .string b] 60)) := (Below.refl _ _).alloc (Nat.le_refl _) _
  have ho1 := h.later hb1
  have c1 := ho1.c1
  have d0 : (w.alloc (.cells #[.string a, .string b] 60)).cell? ⟨w.heap.size, 0, none⟩ = some (.string a) := by simp
  have d1 : (w.alloc (.cells #[.string a, .string b] 60)).cell? ⟨w.heap.size, 1, none⟩ = some (.string b) := by simp
  have lk := OnR.look ho1 hx hxs
  have HL : Hid (∀ W, Below w.heap.size w W → (Instr.lookup 39 (.map m) (.agg #[.string a, .string b]) true).run Try.prog W = .ok (.tuple #[.agg #[], .bool (isInR xs (a, b))]) W) := fun W hW => OnR.look (h.later hW) hx hxs
  have HH : Hid _ := h
  have HB1 : Hid _ := hb1
  generalize hc : isInR xs (a, b) = c at lk HL ⊢
  clear h ho1 hb1 hx hxs hc
  show Calls Try.prog 26 #[.pointer (some ⟨g, o, none⟩), .agg #[.string a, .string b]] w _
  go_enter Try.func26, Try.ntmps26
  go_wp2
  (refine wp_region_held_drew (S := (fun W => W.cell? ⟨g, o + 1, none⟩ = some (.map m) ∧ W.cell? ⟨w.heap.size, 0, none⟩ = some (.string a) ∧ W.cell? ⟨w.heap.size, 1, none⟩ = some (.string b) ∧ Sem.run Try.prog (Instr.lookup 39 (.map m) (.agg #[.string a, .string b]) true) W = .ok (.tuple #[.agg #[], .bool c]) W)) (by kernel_rfl) ⟨c1, d0, d1, HL.out _ HB1.out.drew⟩ (fun hHeld => ?_); simp only [List.size_toArray, List.length_cons, List.length_nil, Nat.reduceAdd, Array.replicate_succ, Array.replicate_zero, List.push_toArray, List.append_toArray, List.nil_append, List.cons_append])
  (refine tk0 (v := ?_) (by kernel_rfl) (by kernel_rfl) (by kernel_rfl) (fun _ _ _ h => h) (Or.inl ⟨by rfl, ?_⟩) (by assumption) ?_; rotate_left; (focus (intro w hSw; (try dsimp only at hSw); go_simp; (try first | (rw [dif_pos (by omega)]; simp only [Result.andThen_ok]) | rw [if_pos (by omega)]); (try with_reducible rfl); done)); try simp only [Act.put, List.setIfInBounds_toArray, List.set_cons_zero, List.set_cons_succ])
  (refine tk1 (v := ?_) (by kernel_rfl) (by kernel_rfl) (by kernel_rfl) (fun _ _ _ h => h) (Or.inl ⟨by rfl, ?_⟩) (by assumption) ?_; rotate_left; (focus (intro w hSw; (try dsimp only at hSw); go_simp; (try first | (rw [dif_pos (by omega)]; simp only [Result.andThen_ok]) | rw [if_pos (by omega)]); (try with_reducible rfl); done)); try simp only [Act.put, List.setIfInBounds_toArray, List.set_cons_zero, List.set_cons_succ])
  (refine tk2 (v := ?_) (by kernel_rfl) (by kernel_rfl) (by kernel_rfl) (fun _ _ _ h => h) (Or.inl ⟨by rfl, ?_⟩) (by assumption) ?_; rotate_left; (focus (intro w hSw; (try dsimp only at hSw); go_simp; (try first | (rw [dif_pos (by omega)]; simp only [Result.andThen_ok]) | rw [if_pos (by omega)]); (try with_reducible rfl); done)); try simp only [Act.put, List.setIfInBounds_toArray, List.set_cons_zero, List.set_cons_succ])
  (refine tk3 (v := ?_) (by kernel_rfl) (by kernel_rfl) (by kernel_rfl) (fun _ _ _ h => h) (Or.inl ⟨by rfl, ?_⟩) (by assumption) ?_; rotate_left; (focus (intro w hSw; (try dsimp only at hSw); go_simp; (try first | (rw [dif_pos (by omega)]; simp only [Result.andThen_ok]) | rw [if_pos (by omega)]); (try with_reducible rfl); done)); try simp only [Act.put, List.setIfInBounds_toArray, List.set_cons_zero, List.set_cons_succ])
  (refine tk4 (v := ?_) (by kernel_rfl) (by kernel_rfl) (by kernel_rfl) (fun _ _ _ h => h) (Or.inl ⟨by rfl, ?_⟩) (by assumption) ?_; rotate_left; (focus (intro w hSw; (try dsimp only at hSw); go_simp; (try first | (rw [dif_pos (by omega)]; simp only [Result.andThen_ok]) | rw [if_pos (by omega)]); (try with_reducible rfl); done)); try simp only [Act.put, List.setIfInBounds_toArray, List.set_cons_zero, List.set_cons_succ])
  (refine tk5 (v := ?_) (by kernel_rfl) (by kernel_rfl) (by kernel_rfl) (fun _ _ _ h => h) (Or.inl ⟨by rfl, ?_⟩) (by assumption) ?_; rotate_left; (focus (intro w hSw; (try dsimp only at hSw); go_simp; (try first | (rw [dif_pos (by omega)]; simp only [Result.andThen_ok]) | rw [if_pos (by omega)]); (try with_reducible rfl); done)); try simp only [Act.put, List.setIfInBounds_toArray, List.set_cons_zero, List.set_cons_succ])
  (refine tk6 (v := ?_) (by kernel_rfl) (by kernel_rfl) (by kernel_rfl) (fun _ _ _ h => h) (Or.inl ⟨by rfl, ?_⟩) (by assumption) ?_; rotate_left; (focus (intro w hSw; (try dsimp only at hSw); go_simp; (try first | (rw [dif_pos (by omega)]; simp only [Result.andThen_ok]) | rw [if_pos (by omega)]); (try with_reducible rfl); done)); try simp only [Act.put, List.setIfInBounds_toArray, List.set_cons_zero, List.set_cons_succ])
  (refine tk7 (v := ?_) (by kernel_rfl) (by kernel_rfl) (by kernel_rfl) (fun _ _ _ h => h) (Or.inl ⟨by rfl, ?_⟩) (by assumption) ?_; rotate_left; (focus (intro w hSw; (try dsimp only at hSw); go_simp; (try first | (rw [dif_pos (by omega)]; simp only [Result.andThen_ok]) | rw [if_pos (by omega)]); (try with_reducible rfl); done)); try simp only [Act.put, List.setIfInBounds_toArray, List.set_cons_zero, List.set_cons_succ])
  (refine tk8 (v := ?_) (by kernel_rfl) (by kernel_rfl) (by kernel_rfl) (fun _ _ _ h => h) (Or.inl ⟨by rfl, ?_⟩) (by assumption) ?_; rotate_left; (focus (intro w hSw; (try dsimp only at hSw); go_simp; (try first | (rw [dif_pos (by omega)]; simp only [Result.andThen_ok]) | rw [if_pos (by omega)]); (try with_reducible rfl); done)); try simp only [Act.put, List.setIfInBounds_toArray, List.set_cons_zero, List.set_cons_succ])
  have HB2 : Hid (Below w.heap.size w ((w.alloc (.cells #[.string a, .string b] 60)).drew.alloc (.cells #[] 70))) := HB1.out.drew.alloc (by simp) _
  have e0 : ∀ p : Addr, p.block < w.heap.size + 1 → ((w.alloc (.cells #[.string a, .string b] 60)).drew.alloc (.cells #[] 70)).cell? p = (w.alloc (.cells #[.string a, .string b] 60)).cell? p := fun p hp => cell_al _ _ (by simpa using hp)
  have HS2 : Hid (((w.alloc (.cells #[.string a, .string b] 60)).drew.alloc (.cells #[] 70)).cell? ⟨g, o + 1, none⟩ = some (.map m) ∧ ((w.alloc (.cells #[.string a, .string b] 60)).drew.alloc (.cells #[] 70)).cell? ⟨w.heap.size, 0, none⟩ = some (.string a) ∧ ((w.alloc (.cells #[.string a, .string b] 60)).drew.alloc (.cells #[] 70)).cell? ⟨w.heap.size, 1, none⟩ = some (.string b) ∧ Sem.run Try.prog (Instr.lookup 39 (.map m) (.agg #[.string a, .string b]) true) ((w.alloc (.cells #[.string a, .string b] 60)).drew.alloc (.cells #[] 70)) = .ok (.tuple #[.agg #[], .bool c]) ((w.alloc (.cells #[.string a, .string b] 60)).drew.alloc (.cells #[] 70))) :=
    ⟨(e0 ⟨g, o + 1, none⟩ (by have := cell_lt HH.out.c0; show g < _; omega)).trans c1, (e0 ⟨w.heap.size, 0, none⟩ (by show w.heap.size < _; omega)).trans d0, (e0 ⟨w.heap.size, 1, none⟩ (by show w.heap.size < _; omega)).trans d1, HL.out _ HB2.out⟩
  clear e0
  (refine wpAnyH_ready (rs := [9]) (by kernel_rfl) (by simp) ?_; refine ar9 (fun K hK => ?_) AllReadyH.nil; go_simp)
  (refine hK.out _ _ HS2.out (fun hHeld => ?_); clear hK K; try simp only [Act.put, List.setIfInBounds_toArray, List.set_cons_zero, List.set_cons_succ])
  (refine wpAnyH_ready (rs := [10]) (by kernel_rfl) (by simp) ?_; refine ar10 (fun K hK => ?_) AllReadyH.nil; go_simp)
  (refine hK.out _ _ HS2.out (fun hHeld => ?_); clear hK K; try simp only [Act.put, List.setIfInBounds_toArray, List.set_cons_zero, List.set_cons_succ])
  (refine tk11 (v := ?_) (by kernel_rfl) (by kernel_rfl) (by kernel_rfl) (fun _ _ _ h => h) (Or.inl ⟨by rfl, ?_⟩) (by assumption) ?_; rotate_left; (focus (intro w hSw; (try dsimp only at hSw); go_simp; (try first | (rw [dif_pos (by omega)]; simp only [Result.andThen_ok]) | rw [if_pos (by omega)]); (try with_reducible rfl); done)); try simp only [Act.put, List.setIfInBounds_toArray, List.set_cons_zero, List.set_cons_succ])
  refine wpAnyH_done (by kernel_rfl) ?_ _
  go_wp2
  go_ret
  exact ⟨rfl, HB2.out⟩
end Go.Proofs.Ytoojfoeehdoeoaa
