import Derived.Test.YteekompojgbkhaaGreatKReQ
namespace Go.Proofs.YteekompojgbkhaaGreat
set_option linter.unusedSimpArgs false
open Go.ChangeShapes Go.WideShapes Go.ChangeAt Go.RowKit Go.MuLone Go.RwLone
set_option linter.unusedVariables false
set_option maxRecDepth 100000
set_option maxHeartbeats 6400000
end Go.Proofs.YteekompojgbkhaaGreat

namespace Go.Proofs.YteekompojgbkhaaGreat
set_option linter.unusedSimpArgs false
open Go.ChangeShapes Go.WideShapes Go.ChangeAt Go.RowKit Go.MuLone Go.RwLone
set_option linter.unusedVariables false
set_option maxRecDepth 100000
set_option maxHeartbeats 6400000
/-- The program's arena was looked at. -/
theorem St4.arn {w w' : World} {B wb : Nat} {hold : Int} {l : WL} {qv av : Value} {s : WS} (h : St4 w B wb hold l qv av s) (ha : Arn w' l.L s.Q s.S) (k : Keeps l.L.has w w') (hB : B ≤ w.heap.size) : St4 w' B wb hold l qv av s :=
  (h.go (h.b.arn ha k) k (fun g hg => .inl (.inl hg)) (fun g hg => .inl hg) rfl rfl rfl rfl (.inl rfl) hB).1
theorem law_same (w : World) (v1 v2 : Value) (xs : List Int) (B1 B2 : Nat) (h1 : OwI w B1 v1 xs) (h2 : OwI w B2 v2 xs) (hl : xs.length ≤ 4096) : Calls Tryz.prog 38 #[v1, v2] w fun e w' => e = .returned (.bool true) ∧ Keeps (fun _ => False) w w' := by
  obtain ⟨a1, c1, e1⟩ := h1.form
  obtain ⟨a2, c2, e2⟩ := h2.form
  subst e1 e2
  have HC : Hid (∀ W, Keeps (fun _ => False) w W → ∀ t (ht : t < xs.length), ∃ g1 g2, a1 = some ⟨g1, 0, none⟩ ∧ a2 = some ⟨g2, 0, none⟩ ∧ W.cell? ⟨g1, t, none⟩ = some (.int .i64 xs[t]) ∧ W.cell? ⟨g2, t, none⟩ = some (.int .i64 xs[t])) := fun W k t ht => by
    have hne : xs ≠ [] := by intro e; rw [e] at ht; simp at ht
    obtain ⟨g1, d1, e1, _, l1⟩ := owG_some h1 hne
    obtain ⟨g2, d2, e2, _, l2⟩ := owG_some h2 hne
    injection e1 with e1 _ _
    injection e2 with e2 _ _
    subst e1 e2
    exact ⟨g1, g2, rfl, rfl, (k.cell (p := ⟨g1, t, none⟩) l1 (fun e => e)).trans (ow_at flat_inZ h1 t ht), (k.cell (p := ⟨g2, t, none⟩) l2 (fun e => e)).trans (ow_at flat_inZ h2 t ht)⟩
  clear h1 h2
  go_enter Tryz.func38, Tryz.ntmps38
  go_wp2_with fail
  go_loopw [5] (fun i wr => ∃ t : Nat, t ≤ xs.length ∧ i = .int .i64 (t : Int) ∧ Keeps (fun _ => False) w wr) (fun i _ => xs.length - (intOf i).toNat)
  case atStart => exact ⟨0, by omega, rfl, Keeps.refl _ _⟩
  case round =>
    obtain ⟨t, ht, rfl, hk⟩ := hrel
    by_cases h5 : t < xs.length
    · have t0 : (0 : Int) ≤ (t : Int) := Int.natCast_nonneg _
      have t1 : (t : Int) < (xs.length : Int) := by omega
      have HK : Hid (Keeps (fun _ => False) w wr.drew) := hk.drew
      obtain ⟨g1, g2, rfl, rfl, d1, d2⟩ := HC.out wr.drew HK.out t h5
      obtain ⟨y, hy⟩ : ∃ y, xs[t] = y := ⟨_, rfl⟩
      rw [hy] at d1 d2
      clear hk hy
      go_wp2_with fail
      (refine wp_region_held_drew (S := (fun Z => Z.cell? ⟨g1, t, none⟩ = some (.int .i64 y) ∧ Z.cell? ⟨g2, t, none⟩ = some (.int .i64 y))) (by kernel_rfl) ⟨d1, d2⟩ (fun hHeld => ?_); simp only [List.size_toArray, List.length_cons, List.length_nil, Nat.reduceAdd, Array.replicate_succ, Array.replicate_zero, List.push_toArray, List.append_toArray, List.nil_append, List.cons_append])
      clear d1 d2
      refine rgT 0 (h := ?_)
      refine rgT 1 (h := ?_)
      refine rgT 2 (h := ?_)
      refine rgT 3 (h := ?_)
      refine rgT 4 (h := ?_)
      refine rgT 5 (h := ?_)
      refine rgT 6 (h := ?_)
      refine rgT 7 (h := ?_)
      refine rgT 8 (h := ?_)
      refine wpAnyH_done (by kernel_rfl) ?_ _
      clear hHeld
      go_wp2
      go_roundw
      case rel => exact ⟨t + 1, by omega, by go_num, HK.out⟩
      case measure => simp [intOf]; omega
    · have HK : Hid (Keeps (fun _ => False) w wr) := hk
      clear hk
      go_wp2
      go_ret
      exact ⟨rfl, HK.out⟩
end Go.Proofs.YteekompojgbkhaaGreat
