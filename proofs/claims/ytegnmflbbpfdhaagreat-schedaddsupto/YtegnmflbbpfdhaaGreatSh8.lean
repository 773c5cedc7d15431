import Derived.Test.YtegnmflbbpfdhaaGreatSh7
import Derived.Test.YtegnmflbbpfdhaaGreatOpL
namespace Go.Proofs.YtegnmflbbpfdhaaGreat
open Go.ChangeShapes Go.WideShapes Go.ChangeAt Go.RowKit Go.MuLone Go.RwLone
set_option linter.unusedVariables false
set_option maxRecDepth 100000
theorem cellsU64 : Tryz.prog.cellsOf 22 = 1 := by kernel_rfl
theorem cellsLu : Tryz.prog.cellsOf 24 = 1 := by kernel_rfl
theorem sum_ones {α : Type} (xs : List α) : (xs.map (fun _ => 1)).sum = xs.length := by
  induction xs with
  | nil => rfl
  | cons a r ih => simp only [List.map_cons, List.sum_cons, List.length_cons, ih]; omega
theorem bulk_one {H : Type} (d : DataW H) : 1 ≤ Rows.uptoBulk d := by
  unfold Rows.uptoBulk
  split <;> omega
section
variable {H : Type} {enc : TypeId × Value → H} {W : World}
theorem each_u64 (fuel : Nat) (c : List Value) (y : DataW H × List MemPlace) (h : DataW.trod enc Tryz.prog W 0 (fun _ => true) true fuel 22 c = some y) : ∃ a : Int, c = wdC a ∧ (0 ≤ a ∧ a < 18446744073709551616) ∧ 1 ≤ Rows.uptoBulk y.1 := by
  obtain ⟨s, e1, rfl, hw⟩ := DataW.trod_int (k := .u64) (by kernel_rfl) h
  refine ⟨s, e1, ⟨(bounds_u64 hw).1, ?_⟩, bulk_one _⟩
  have := (bounds_u64 hw).2
  omega
theorem each_wds (fuel : Nat) (c : List Value) (y : DataW H × List MemPlace) (h : DataW.trod enc Tryz.prog W 0 (fun _ => true) true fuel 24 c = some y) : ∃ a : Value × List Int, c = slP a ∧ (InG wdC W W.heap.size a.1 a.2 ∧ ∀ x ∈ a.2, 0 ≤ x ∧ x < 18446744073709551616) ∧ a.2.length + 1 ≤ Rows.uptoBulk y.1 := by
  obtain ⟨v, xs, e1, e2, e3, e4⟩ := open_list (W := W) wdC (fun _ => 1) (fun x => 0 ≤ x ∧ x < 18446744073709551616) Tryz.underlying24 cellsU64 (fun _ => rfl) (by omega) (fun f c y h => each_u64 f c y h) h
  rw [sum_ones] at e4
  exact ⟨(v, xs), e1, ⟨e2, e3⟩, e4⟩
theorem sum_mem {α : Type} (f : α → Nat) : ∀ (xs : List α) (x : α), x ∈ xs → f x ≤ (xs.map f).sum
  | a :: r, x, h => by
    simp only [List.map_cons, List.sum_cons]
    rcases List.mem_cons.1 h with rfl | h
    · omega
    · have := sum_mem f r x h
      omega
theorem sum_len {α : Type} (f : α → Nat) (h : ∀ x, 1 ≤ f x) : ∀ (xs : List α), xs.length ≤ (xs.map f).sum
  | [] => Nat.le_refl _
  | a :: r => by
    have := sum_len f h r
    have := h a
    simp only [List.map_cons, List.sum_cons, List.length_cons]
    omega
theorem open_deltas {fuel : Nat} {a : Option Addr} {len cap : Nat} {x : DataW H × List MemPlace} (hf : DataW.trod enc Tryz.prog W 0 (fun _ => true) true fuel 39 [.slice a len cap] = some x) (hb : Rows.uptoBulk x.1 ≤ 1048576) :
    ∃ qs, len = qs.length ∧ DelG W W.heap.size a cap qs ∧ ∀ q ∈ qs, ∀ x ∈ q.2, 0 ≤ x ∧ x < 18446744073709551616 := by
  obtain ⟨v, qs, e1, e2, e3, e4⟩ := open_list (W := W) slP (fun q => q.2.length + 1) (fun q => InG wdC W W.heap.size q.1 q.2 ∧ ∀ x ∈ q.2, 0 ≤ x ∧ x < 18446744073709551616) Tryz.underlying39 cellsLu (fun _ => rfl) (by omega) (fun f c y h => each_wds f c y h) hf
  have ev : v = .slice a len cap := by injection e1 with e1 _; exact e1.symm
  subst ev
  obtain ⟨a', cap', e5⟩ := e2.form
  injection e5 with e5 e6 e7
  subst e6
  have hl := sum_len (fun q : Value × List Int => q.2.length + 1) (fun q => by omega) qs
  refine ⟨qs, rfl, ⟨e2, fun q hq => ⟨(e3 q hq).1, ?_⟩, by omega⟩, fun q hq => (e3 q hq).2⟩
  have := sum_mem (fun q : Value × List Int => q.2.length + 1) qs q hq
  omega
theorem adds_open {fuel : Nat} {a : Option Addr} {len cap : Nat} {x : DataW H × List MemPlace} (hf : DataW.trod enc Tryz.prog W 0 (fun _ => true) true fuel 39 [.slice a len cap] = some x) (hb : Rows.uptoBulk x.1 ≤ 1048576) (x0 : Int) (s : ByteArray) (x1 : 0 ≤ x0) (x2 : x0 < 18446744073709551616) (hs : s.size ≤ 1048576) :
    Calls Tryz.prog 4 #[.int .u64 x0, .slice a len cap, .string s] W fun e w' => e = .returned (.bool true) ∧ Below W.heap.size W w' := by
  obtain ⟨qs, rfl, hd, hv⟩ := open_deltas hf hb
  exact adds_walk x0 W W.heap.size (Nat.le_refl _) a cap qs hd hv s x1 x2 hs
end
end Go.Proofs.YtegnmflbbpfdhaaGreat
