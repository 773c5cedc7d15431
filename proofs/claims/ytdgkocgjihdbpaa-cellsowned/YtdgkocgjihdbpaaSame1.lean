import Derived.Test.YtdgkocgjihdbpaaOwn0
namespace Go.Proofs.Ytdgkocgjihdbpaa
open Go.ChangeShapes Go.WideShapes Go.ChangeAt Go.RowKit
set_option linter.unusedVariables false
set_option maxRecDepth 100000
set_option maxHeartbeats 3200000
theorem same_eq (g1 g2 m k1 k2 : Nat) (f : Nat → Int) (w : World) (hm : m ≤ 4096) (h1 : ∀ i, i < m → w.cell? ⟨g1, i, none⟩ = some (.int .u64 (f i))) (h2 : ∀ i, i < m → w.cell? ⟨g2, i, none⟩ = some (.int .u64 (f i))) (z1 : g1 < w.heap.size) (z2 : g2 < w.heap.size) :
    Calls Try.prog 18 #[.agg #[.int .i64 0, .slice (some ⟨g1, 0, none⟩) m k1, .string ⟨#[]⟩], .agg #[.int .i64 0, .slice (some ⟨g2, 0, none⟩) m k2, .string ⟨#[]⟩]] w fun e w' => e = .returned (.bool true) ∧ Below w.heap.size w w' := by
  have HB : Hid (Below w.heap.size w ((w.alloc (.cells #[.int .i64 0, .slice (some ⟨g1, 0, none⟩) m k1, .string ⟨#[]⟩] 60)).alloc (.cells #[.int .i64 0, .slice (some ⟨g2, 0, none⟩) m k2, .string ⟨#[]⟩] 60))) := ((Below.refl _ _).alloc (Nat.le_refl _) _).alloc (by simp) _
  have H1 : Hid (∀ i, i < m → w.cell? ⟨g1, i, none⟩ = some (.int .u64 (f i))) := h1
  have H2 : Hid (∀ i, i < m → w.cell? ⟨g2, i, none⟩ = some (.int .u64 (f i))) := h2
  have HC : Hid (((w.alloc (.cells #[.int .i64 0, .slice (some ⟨g1, 0, none⟩) m k1, .string ⟨#[]⟩] 60)).alloc (.cells #[.int .i64 0, .slice (some ⟨g2, 0, none⟩) m k2, .string ⟨#[]⟩] 60)).cell? ⟨w.heap.size, 1, none⟩ = some (.slice (some ⟨g1, 0, none⟩) m k1) ∧ ((w.alloc (.cells #[.int .i64 0, .slice (some ⟨g1, 0, none⟩) m k1, .string ⟨#[]⟩] 60)).alloc (.cells #[.int .i64 0, .slice (some ⟨g2, 0, none⟩) m k2, .string ⟨#[]⟩] 60)).cell? ⟨w.heap.size + 1, 1, none⟩ = some (.slice (some ⟨g2, 0, none⟩) m k2)) := by
    have e1 := (Below.heap_alloc (w.alloc (.cells #[.int .i64 0, .slice (some ⟨g1, 0, none⟩) m k1, .string ⟨#[]⟩] 60)) (.cells #[.int .i64 0, .slice (some ⟨g2, 0, none⟩) m k2, .string ⟨#[]⟩] 60) w.heap.size (by simp)).trans (heap_alloc_last w _ _ rfl)
    have e2 := heap_alloc_last (w.alloc (.cells #[.int .i64 0, .slice (some ⟨g1, 0, none⟩) m k1, .string ⟨#[]⟩] 60)) (.cells #[.int .i64 0, .slice (some ⟨g2, 0, none⟩) m k2, .string ⟨#[]⟩] 60) (w.heap.size + 1) (by simp)
    exact ⟨(cell?_heap e1 1).trans rfl, (cell?_heap e2 1).trans rfl⟩
  clear h1 h2
  go_enter Try.func18, Try.ntmps18
  go_wp2_with fail
  generalize (w.alloc (.cells #[.int .i64 0, .slice (some ⟨g1, 0, none⟩) m k1, .string ⟨#[]⟩] 60)).alloc (.cells #[.int .i64 0, .slice (some ⟨g2, 0, none⟩) m k2, .string ⟨#[]⟩] 60) = W at *
  have hgs : w.heap.size = w.heap.size := rfl
  generalize hgg : w.heap.size = g at *
  clear hgs
  go_loopw [5] (fun i wr => ∃ t : Nat, t ≤ m ∧ i = .int .i64 (t : Int) ∧ Below g w wr ∧ wr.cell? ⟨g, 1, none⟩ = some (.slice (some ⟨g1, 0, none⟩) m k1) ∧ wr.cell? ⟨g + 1, 1, none⟩ = some (.slice (some ⟨g2, 0, none⟩) m k2)) (fun i _ => m - (intOf i).toNat)
  case atStart => exact ⟨0, by omega, rfl, HB.out, HC.out⟩
  case round =>
    obtain ⟨t, ht, rfl, hb, d1, d2⟩ := hrel
    have HB2 : Hid (Below g w wr) := hb
    clear hb HB HC
    by_cases h5 : t < m
    · have e1 := (HB2.out.cell (p := ⟨g1, t, none⟩) z1).trans (H1.out t h5)
      have e2 := (HB2.out.cell (p := ⟨g2, t, none⟩) z2).trans (H2.out t h5)
      have x1 : (0 : Int) ≤ (t : Int) := by omega
      have x2 : (t : Int) < (m : Int) := by omega
      go_wp2_with fail
      go_quiet (fail)
      go_wp2
      go_roundw
      case rel => exact ⟨t + 1, by omega, by go_num, HB2.out.trans ((Keeps.drewN (fun _ => False) _ _).below (by have := HB2.out.size; omega) (fun _ _ e => e)), d1, d2⟩
      case measure => simp [intOf]; omega
    · go_wp2
      go_ret
      exact ⟨rfl, hgg ▸ HB2.out⟩
end Go.Proofs.Ytdgkocgjihdbpaa
