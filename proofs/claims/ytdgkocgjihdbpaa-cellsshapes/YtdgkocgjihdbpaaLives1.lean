import Derived.RangeFuncNested
import Derived.RangeFuncBound
import Derived.RangeFuncCalls
import Derived.RangeFuncLeaves
import Derived.RangeFuncFrom
import Derived.Shelf.Abstract
import Derived.Shelf.RegionOpen
import Derived.OwnWalkIn
import Derived.TacticsInMore
import Derived.LoopNIn
import Derived.LoopIn
import Derived.Test.YtdgkocgjihdbpaaCells16
import Derived.Test.YtdgkocgjihdbpaaCells3
namespace Go.Proofs.Ytdgkocgjihdbpaa
open Go.ChangeShapes Go.WideShapes Go.ChangeAt Go.RowKit Go.MuLone Go.RwLone
set_option linter.unusedVariables false
theorem setCell_heap {w : World} {b j : Nat} {c : Array Value} {t : TypeId} {fz : Nat × Nat} (v : Value) (h : w.heap[b]? = some (.cells c t fz)) : (w.setCell ⟨b, j, none⟩ v).heap[b]? = some (.cells (c.setIfInBounds j v) t fz) := by
  have hb : b < w.heap.size := (Array.getElem?_eq_some_iff.1 h).1
  have he := (Array.getElem?_eq_some_iff.1 h).2
  show (w.heap.modify b _)[b]? = _
  rw [Array.getElem?_modify]
  simp [h]
theorem world_ext {w w' : World} (h1 : w'.heap.size = w.heap.size) (h2 : ∀ k : Nat, w'.heap[k]? = w.heap[k]?) (h3 : w'.tape = w.tape) (h4 : w'.drawn = w.drawn) (h5 : w'.os = w.os) (h6 : w'.output = w.output) : w' = w := by
  cases w; cases w'
  simp only at h1 h2 h3 h4 h5 h6
  subst h3 h4 h5 h6
  congr 1
  exact Array.ext_getElem? h2
theorem setIf_back (c : Array Value) (v7 v3 x y : Value) (h3 : c[3]? = some v3) (h7 : c[7]? = some v7) : (((c.setIfInBounds 3 x).setIfInBounds 7 y).setIfInBounds 7 v7).setIfInBounds 3 v3 = c := by
  have s3 : 3 < c.size := (Array.getElem?_eq_some_iff.1 h3).1
  have s7 : 7 < c.size := (Array.getElem?_eq_some_iff.1 h7).1
  apply Array.ext_getElem?
  intro i
  simp only [Array.getElem?_setIfInBounds, Array.size_setIfInBounds]
  by_cases e3 : 3 = i
  · subst e3
    simp only [s3, if_true]
    exact h3.symm
  · by_cases e7 : 7 = i
    · subst e7
      simp [s7]
      exact (Array.getElem?_eq_some_iff.1 h7).2.symm
    · simp [e3, e7]
theorem gate_back {w : World} {L : Lay} {S : AS} (h : Holds w L S) (hg : S.g0 = 0) (hr : S.rc = 0) : ((((w.setCell ⟨L.b, 3, none⟩ (.int .i32 1)).setCell ⟨L.b, 7, none⟩ (.int .i32 (-1073741824))).setCell ⟨L.b, 7, none⟩ (.int .i32 0)).setCell ⟨L.b, 3, none⟩ (.int .i32 0)) = w := by
  have c3 := h.c3
  have c7 := h.c7
  rw [hg] at c3
  rw [hr] at c7
  obtain ⟨c, t, fz, hb⟩ : ∃ c t fz, w.heap[L.b]? = some (.cells c t fz) := by
    unfold World.cell? at c3
    split at c3
    · exact ⟨_, _, _, by assumption⟩
    · cases c3
  have e3 : c[3]? = some (.int .i32 0) := by simpa [World.cell?, hb] using c3
  have e7 : c[7]? = some (.int .i32 0) := by simpa [World.cell?, hb] using c7
  refine world_ext (by simp) (fun k => ?_) rfl rfl rfl rfl
  by_cases e : k = L.b
  · subst e
    rw [setCell_heap _ (setCell_heap _ (setCell_heap _ (setCell_heap _ hb))), setIf_back c _ _ _ _ e3 e7, hb]
  · rw [Below.heap_setCell _ _ _ _ e, Below.heap_setCell _ _ _ _ e, Below.heap_setCell _ _ _ _ e, Below.heap_setCell _ _ _ _ e]
set_option maxRecDepth 100000 in
set_option maxHeartbeats 1600000 in
theorem hold_none (L : Lay) (S : AS) (w : World) (h : Holds w L S) (hg : S.g0 = 0) (hr : S.rc = 0) (hu : ∀ k, k < S.n → S.use k = false) : Calls Try.prog 43 #[.pointer (some ⟨L.b, 0, none⟩)] w fun e w' => e = .returned (.slice none 0 0) ∧ w' = w := by
  have H : Hid (Holds w L S ∧ ∀ k, k < S.n → S.use k = false) := ⟨h, hu⟩
  have hz := h.hn.2
  have HB : Hid (_ = w) := gate_back h hg hr
  have HL : Hid (Calls Try.prog 30 #[.pointer (some ⟨L.b, 3, none⟩)] w fun e w' => e = .returned (.tuple #[]) ∧ w' = (w.setCell ⟨L.b, 3, none⟩ (.int .i32 1)).setCell ⟨L.b, 7, none⟩ (.int .i32 (-1073741824))) := wlock_free rwWLib L.b 3 _ _ w (by rw [← hg]; exact h.c3) h.c5 h.c6 (by rw [← hr]; exact h.c7) (h.fz _ _ (Or.inl rfl)) (h.fz _ _ (Or.inl rfl))
  have H1 : Hid (Holds ((w.setCell ⟨L.b, 3, none⟩ (.int .i32 1)).setCell ⟨L.b, 7, none⟩ (.int .i32 (-1073741824))) L { S with g0 := 1, rc := -1073741824 }) := (h.setG0 1).setRc (-1073741824)
  clear h hu
  go_enter_defers Try.func43, Try.ntmps43
  go_wp2_with fail
  refine (missing_holds2 H.out.1).mono ?_
  rintro e w' ⟨rfl, rfl⟩
  go_wp2_with fail
  refine HL.out.mono ?_
  rintro e w1 ⟨rfl, rfl⟩
  clear HL
  generalize hw1 : (w'.setCell ⟨L.b, 3, none⟩ (.int .i32 1)).setCell ⟨L.b, 7, none⟩ (.int .i32 (-1073741824)) = w1 at *
  have c1 := H1.out.c1
  simp only [] at c1
  clear hw1
  go_wp2_with fail
  go_loopw [3, 20] (fun al i wr => ∃ t : Nat, t ≤ S.n ∧ i = .int .i64 (t : Int) ∧ al = .slice none 0 0 ∧ wr = w1) (fun _ i _ => S.n - (intOf i).toNat)
  case atStart => exact ⟨0, by omega, rfl, rfl, rfl⟩
  case round =>
    obtain ⟨t, ht, rfl, rfl, rfl⟩ := hrel
    by_cases h4 : t < S.n
    · have cu := H1.out.us t h4
      have hu := H.out.2 t h4
      simp only [hu] at cu
      go_wp2_with fail
      refine (bool_load _ _ _ cu).mono ?_
      rintro e w3 ⟨rfl, rfl⟩
      go_wp2
      go_roundw
      case rel => exact ⟨t + 1, by omega, by go_num, rfl, trivial⟩
      case measure => simp [intOf]; omega
    · go_wp2_with fail
      refine leaves_cons (f := 31) (args := #[.pointer (some ⟨L.b, 3, none⟩)]) (by simp) (by simp [go_sem]) ?_
      refine (wunlock_deferred rwWLib L.b 3 _ _ .returning _ H1.out.c3 H1.out.c5 H1.out.c6 H1.out.c7 (H1.out.fz _ _ (Or.inl rfl)) (H1.out.fz _ _ (Or.inl rfl))).mono ?_
      rintro e u' w3 ⟨rfl, rfl, rfl⟩
      exact ⟨_, results_tmp rfl _ _ _, rfl, HB.out⟩
set_option maxRecDepth 100000 in
set_option maxHeartbeats 1600000 in
theorem hold_nil (w : World) : Calls Try.prog 43 #[.pointer none] w fun e w' => e = .returned (.slice none 0 0) ∧ w' = w := by
  go_enter_defers Try.func43, Try.ntmps43
  go_wp2_with fail
  refine (missing_nil w).mono ?_
  rintro e w' ⟨rfl, rfl⟩
  go_wp2_with fail
  exact ⟨_, results_tmp rfl _ _ _, rfl, rfl⟩
set_option maxRecDepth 100000 in
set_option maxHeartbeats 1600000 in
theorem all_any (p : Option Addr) (w : World) : Calls Try.prog 21 #[.pointer p] w fun e w' => e = .returned (.func (.func 42) #[] #[.pointer (some ⟨w.heap.size, 0, none⟩)]) ∧ w' = w.alloc (.cells #[.pointer p] 25) := by
  go_enter Try.func21, Try.ntmps21
  go_wp2
  go_ret
  exact ⟨rfl, rfl⟩
set_option maxRecDepth 100000 in
set_option maxHeartbeats 1600000 in
/-- All's iterator where there is nothing. -/
theorem all1_none (p : Option Addr) (B : Nat) (y : Value) (w : World) (hc : w.cell? ⟨B, 0, none⟩ = some (.pointer p)) (HH : Hid (Calls Try.prog 43 #[.pointer p] w fun e w' => e = .returned (.slice none 0 0) ∧ w' = w)) : Calls Try.prog 42 #[y, .pointer (some ⟨B, 0, none⟩)] w fun e w' => e = .returned (.tuple #[]) ∧ w' = w := by
  go_enter Try.func42, Try.ntmps42
  go_wp2_with fail
  refine HH.out.mono ?_
  rintro e w' ⟨rfl, rfl⟩
  go_wp2_with fail
  go_loopw [8] (fun i wr => i = .int .i64 0 ∧ wr = w') (fun _ _ => 0)
  case atStart => exact ⟨rfl, rfl⟩
  case round =>
    obtain ⟨rfl, rfl⟩ := hrel
    go_wp2
    exact ⟨rfl, .tuple #[], by simp [results, Try.results42], rfl, rfl⟩
attribute [local go_sem] Oper.semAt_some
open Go.Shelf
set_option maxRecDepth 100000 in
set_option maxHeartbeats 3200000 in
/-- Live where there is nothing. -/
theorem live_none (p : Option Addr) (w : World) (HH : Hid (∀ W, Below w.heap.size w W → Calls Try.prog 43 #[.pointer p] W fun e w' => e = .returned (.slice none 0 0) ∧ w' = W)) : Calls Try.prog 9 #[.pointer p] w fun e w' => e = .returned (.slice none 0 0) ∧ Below w.heap.size w w' := by
  refine (callsIn_wide (n := 3)).1 ?_
  have h1 : 1 ≤ 3 := by omega
  refine callsIn_of_wp_marks Try.func9 rfl trivial ?_ rfl
  simp only [Try.ntmps9, List.size_toArray, List.length_cons, List.length_nil, Nat.reduceAdd, Nat.reduceSub, Array.replicate_succ, Array.replicate_zero, List.push_toArray, List.append_toArray, List.nil_append, List.cons_append]
  gi_wp2_with (refine ⟨trivial, ?_⟩; gi_at_call 21; refine (callsIn_wide.2 (all_any p _)).mono ?_; rintro e w' ⟨rfl, rfl⟩)
  have hs := cell?_new w (.slice none 0 0) 31
  have hb := cell?_new (w.alloc (.cells #[.slice none 0 0] 31)) (.pointer p) 25
  rw [World.size_alloc] at hb
  refine wpIn_rangeFunc_ownF (α := Empty) rfl h1 (gf := 42) (lb := #[.pointer (some ⟨w.heap.size + 1, 0, none⟩)]) rfl trivial (enters_of Try.func42 (by kernel_rfl) rfl)
    (encs := fun x => x.elim) (Kp := fun _ _ => True) (S := fun _ => True) (Sp := fun _ => False) (N := 0) (w0 := (w.alloc (.cells #[.slice none 0 0] 31)).alloc (.cells #[.pointer p] 25))
    (fun l J Jx W hW hJ hJx hY h0 => ?seq) (fun _ _ => trivial) (fun _ _ _ _ _ _ _ _ => trivial) (Below.refl _ _) (fun x => x.elim)
    (fun pre W => W.cell? ⟨w.heap.size, 0, none⟩ = some (.slice none 0 0) ∧ Below w.heap.size w W)
    (fun _ _ _ => False)
    (OwnFrom.and (Own.from (fun s A B row hs hg hr => cell_kept hs hg hr) _) (ownFrom_below (Nat.le_refl _) (by simp; omega)))
    (fun _ _ _ _ _ hs _ _ => hs)
    ⟨(World.cell?_alloc_past _ _ _ (by simp)).trans hs, ((Below.refl w.heap.size w).alloc (Nat.le_refl _) _).alloc (by simp) _⟩
    (fun x => x.elim) ?assign ?body ?done ?stop
  case seq =>
    refine (callsIn_wide.2 (all1_none p (w.heap.size + 1) (.func (.yield l) #[] #[]) W ((hW.cell (p := ⟨w.heap.size + 1, 0, none⟩) (by simp)).trans hb) (HH.out W ?_))).mono ?_
    · exact (((Below.refl w.heap.size w).alloc (Nat.le_refl _) _).alloc (by simp) _).trans (hW.mono (by simp; omega))
    · rintro e W' ⟨rfl, rfl⟩
      exact ⟨⟨_, rfl⟩, .inl ⟨[], trivial, h0⟩⟩
  case assign =>
    intro l x
    exact x.elim
  case body =>
    intro l pre x
    exact x.elim
  case done =>
    rintro D ys W hD _ ⟨hc, hB⟩ hK
    gi_wp2
    refine ⟨by simp, .inl ⟨_, _, rfl, run_takeDeferred hK, ?_⟩⟩
    exact ⟨_, results_tmp rfl _ _ _, rfl, hB.trans (belowK_b (w := w) (Nat.le_refl _) W D _ _ (by simp at hD; omega) hK rfl rfl)⟩
  case stop =>
    rintro D c pre W _ h _
    exact h.elim
end Go.Proofs.Ytdgkocgjihdbpaa
