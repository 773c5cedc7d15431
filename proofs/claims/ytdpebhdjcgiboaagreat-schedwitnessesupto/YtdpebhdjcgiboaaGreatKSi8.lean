import Derived.Test.YtdpebhdjcgiboaaGreatKSg7
import Derived.Test.YtdpebhdjcgiboaaGreatKSnB
import Derived.Test.YtdpebhdjcgiboaaGreatKSrL
import Derived.Test.YtdpebhdjcgiboaaGreatKSh3
import Derived.Test.YtdpebhdjcgiboaaGreatKSi4
import Derived.Laws.StructEq
namespace Go.Proofs.YtdpebhdjcgiboaaGreat
open Go.ChangeShapes Go.WideShapes Go.ChangeAt Go.RowKit Go.MuLone Go.RwLone
set_option linter.unusedVariables false
set_option maxRecDepth 100000
set_option maxHeartbeats 6400000
end Go.Proofs.YtdpebhdjcgiboaaGreat

namespace Go.Proofs.YtdpebhdjcgiboaaGreat
open Go.ChangeShapes Go.WideShapes Go.ChangeAt Go.RowKit Go.MuLone Go.RwLone
set_option linter.unusedVariables false
set_option maxRecDepth 100000
set_option maxHeartbeats 6400000
def adI : I8 := ⟨4, 0, 0, -1, 1, 0, 0, 0⟩
def zeI : I8 := ⟨0, 0, 0, 0, 0, 0, 0, 0⟩
abbrev zaI : Array Value := #[.int .i64 0, .int .i64 0, .int .i64 0, .int .i64 0, .int .u64 0, .int .i64 0, .int .u64 0, .int .i64 0]
/-- The state of a job's thread at its begin. -/
def sJ : Ls := ⟨wds [0], fun _ _ => 0, fun _ => 0⟩
def bJ : Bd := ⟨⟨0, 0, 0, 0⟩, 0, 0, fun _ => 0, fun _ => none, fun _ => 0, fun _ => []⟩
/-- In the midst of handing jobs in. -/
structure Lj (w w' : World) (W : Nat) (js : List (Int × Int × Int)) (i hb qb : Nat) (J : Nat → Bd) : Prop where
  m : ∃ P qv ev en, Hm w' P (fun k => (J k).T 0) hb qb qv ev en (hJ (whoJ js W) (tagJ js) W i) ∧ (∀ y, P y → w.heap.size ≤ y) ∧ (∀ k, k < i → ∀ y, fB (J k) y → ¬ P y)
  j : Js J i
  l : ∀ k, k < i → lnJ J k = lenJ js k
  z : ∀ k, i ≤ k → lnJ J k = 0
  o : ∀ k, k < i → Bo (J k) w' sJ
  f : ∀ k, k < i → ∀ y, fB (J k) y → w.heap.size ≤ y
  k : Keeps (fun _ => False) w w'
end Go.Proofs.YtdpebhdjcgiboaaGreat

namespace Go.Proofs.YtdpebhdjcgiboaaGreat
open Go.ChangeShapes Go.WideShapes Go.ChangeAt Go.RowKit Go.MuLone Go.RwLone
set_option linter.unusedVariables false
set_option maxRecDepth 100000
set_option maxHeartbeats 6400000
def wrI : I8 := ⟨2, 0, 0, -1, 77, 0, 0, 0⟩
end Go.Proofs.YtdpebhdjcgiboaaGreat

namespace Go.Proofs.YtdpebhdjcgiboaaGreat
open Go.ChangeShapes Go.WideShapes Go.ChangeAt Go.RowKit Go.MuLone Go.RwLone
set_option linter.unusedVariables false
set_option maxRecDepth 100000
set_option maxHeartbeats 6400000
variable {w : World} {B : Nat} {cs : List Int} {ts : List (List I8)} {gc gcap : Nat} {tvv : Value} {ab acap : Nat} {ps : List (Value × List I8)} {v79 : Value}
theorem Lt.pu (h : Lt w B cs ts gc gcap tvv ab acap ps v79) (i : Nat) (hi : i < ts.length) : ∃ hp : i < ps.length, ps[i].2 = ts[i] ++ [mkI 77, mkI 78] ∧ ∃ g c, ps[i].1 = .slice (some ⟨g, 0, none⟩) (ts[i].length + 2) c := by
  have hpl : ps.length = ts.length := by have := congrArg List.length h.pl; simpa using this
  have hp : i < ps.length := by omega
  have e : ps[i].2 = ts[i] ++ [mkI 77, mkI 78] := by
    have h1 : (ps.map Prod.snd)[i]? = some ps[i].2 := by rw [List.getElem?_map, List.getElem?_eq_getElem hp]; rfl
    rw [h.pl, List.getElem?_map, List.getElem?_eq_getElem hi] at h1
    exact (Option.some.inj h1).symm
  have ho := h.oi ps[i] (List.getElem_mem hp)
  obtain ⟨g, c, e2, _, _⟩ := owG_some ho (by rw [e]; simp)
  refine ⟨hp, e, g, c, ?_⟩
  rw [e2, e, List.length_append]
  rfl
end Go.Proofs.YtdpebhdjcgiboaaGreat

namespace Go.Proofs.YtdpebhdjcgiboaaGreat
open Go.ChangeShapes Go.WideShapes Go.ChangeAt Go.RowKit Go.MuLone Go.RwLone
set_option linter.unusedVariables false
set_option maxRecDepth 100000
set_option maxHeartbeats 6400000
/-- The blocks of what was lent that wreck may change. -/
def wkQ (gc : Nat) (ps : List (Value × List I8)) (x : Nat) : Prop := x = gc ∨ ∃ v ∈ ps.map Prod.fst, v.ownBlock = some x
end Go.Proofs.YtdpebhdjcgiboaaGreat

namespace Go.Proofs.YtdpebhdjcgiboaaGreat
set_option linter.unusedSimpArgs false
open Go.ChangeShapes Go.WideShapes Go.ChangeAt Go.RowKit Go.MuLone Go.RwLone
set_option linter.unusedVariables false
set_option maxRecDepth 100000
set_option maxHeartbeats 6400000
theorem kept_any (w : World) (C : Nat) (hC : C ≤ w.heap.size) (B : Nat) (ca : Option Addr) (cc : Nat) (ta : Option Addr) (tc : Nat) (tv : Nat → Value) (cs : List Int) (ts : List (List I8)) (hl : LitG w C ca cc ta tc tv cs ts) (g0 g1 : Value) (gc gcap : Nat) (tvv : Value) (ab acap : Nat) (ps : List (Value × List I8)) (v79 : Value) (h : Lt w B cs ts gc gcap tvv ab acap ps v79) (o0 : g0.oneCell' = true) (o1 : g1.oneCell' = true) (l1 : cs.length ≤ 1099511627776) (l2 : ts.length ≤ 1099511627776) (l3 : ∀ i (hi : i < ts.length), ts[i].length ≤ 1099511627776) :
    Calls Tryz.prog 22 #[.agg #[g0, g1, .slice (some ⟨gc, 0, none⟩) (cs.length + 2) gcap, tvv, .slice (some ⟨ab, 0, none⟩) (ts.length + 1) acap], .agg (litC ca cs.length cc ta ts.length tc)] w fun e w' => e = .returned (.bool true) ∧ Keeps (fun _ => False) w w' := by
  obtain ⟨ta0, tc0, htv⟩ := h.ot.form
  subst htv
  obtain ⟨g9, c9, h9, -, -⟩ := owG_some h.o9 (by simp)
  subst h9
  have k0 : Keeps (fun _ => False) w ((w.alloc (.cells #[g0, g1, .slice (some ⟨gc, 0, none⟩) (cs.length + 2) gcap, .slice ta0 ps.length tc0, .slice (some ⟨ab, 0, none⟩) (ts.length + 1) acap] 53)).alloc (.cells (litC ca cs.length cc ta ts.length tc) 49)) := ((Keeps.refl _ _).alloc _).alloc _
  have hpl : ps.length = ts.length := by have := congrArg List.length h.pl; simpa using this
  have hS : ∀ W, Keeps (fun _ => False) ((w.alloc (.cells #[g0, g1, .slice (some ⟨gc, 0, none⟩) (cs.length + 2) gcap, .slice ta0 ps.length tc0, .slice (some ⟨ab, 0, none⟩) (ts.length + 1) acap] 53)).alloc (.cells (litC ca cs.length cc ta ts.length tc) 49)) W → Lt W B cs ts gc gcap (.slice ta0 ps.length tc0) ab acap ps (.slice (some ⟨g9, 0, none⟩) 1 c9) ∧ LitG W C ca cc ta tc tv cs ts ∧ W.cell? ⟨w.heap.size, 2, none⟩ = some (.slice (some ⟨gc, 0, none⟩) (cs.length + 2) gcap) ∧ W.cell? ⟨w.heap.size, 4, none⟩ = some (.slice (some ⟨ab, 0, none⟩) (ts.length + 1) acap) ∧ W.cell? ⟨w.heap.size + 1, 0, none⟩ = some (.slice ca cs.length cc) ∧ W.cell? ⟨w.heap.size + 1, 1, none⟩ = some (.slice ta ts.length tc) ∧ W.cell? ⟨gc, cs.length, none⟩ = some (.int .u64 771) ∧ W.cell? ⟨gc, cs.length + 1, none⟩ = some (.int .u64 772) ∧ W.cell? ⟨ab, ts.length, none⟩ = some (.slice (some ⟨g9, 0, none⟩) 1 c9) ∧ W.cell? ⟨g9, 0, none⟩ = some (.int .i64 79) ∧ W.cell? ⟨w.heap.size, 3, none⟩ = some (.slice ta0 ps.length tc0) := fun W k => by
    have kk := k0.trans k
    have hL := h.later (kk.below (Nat.le_refl _) (fun _ _ e => e))
    have e0 : W.heap[w.heap.size]? = some (.cells #[g0, g1, .slice (some ⟨gc, 0, none⟩) (cs.length + 2) gcap, .slice ta0 ps.length tc0, .slice (some ⟨ab, 0, none⟩) (ts.length + 1) acap] 53) := (k.block _ (by rw [szAl, szAl]; omega) (fun e => e)).trans ((Below.heap_alloc _ _ _ (by rw [szAl]; omega)).trans (heap_alloc_last _ _ _ rfl))
    have e1 : W.heap[w.heap.size + 1]? = some (.cells (litC ca cs.length cc ta ts.length tc) 49) := (k.block _ (by rw [szAl, szAl]; omega) (fun e => e)).trans (heap_alloc_last _ _ _ (szAl _ _).symm)
    have oc : W.ownsRow B 55 1 (.slice (some ⟨gc, 0, none⟩) (cs.length + 2) gcap) (cs.length + 2) ((cs ++ [771, 772]).flatMap wdC) := by have := hL.oc; unfold OwW OwG at this; rw [List.length_append] at this; exact this
    have oa : W.ownsRow B 102 1 (.slice (some ⟨ab, 0, none⟩) (ts.length + 1) acap) (ts.length + 1) ((ps.map cutP ++ [((.slice (some ⟨g9, 0, none⟩) 1 c9 : Value), [mkI 79])]).flatMap slP) := by have := hL.oa; unfold OwG at this; rw [List.length_append, List.length_map, hpl] at this; exact this
    refine ⟨hL, hl.later (kk.below hC (fun _ _ e => e)), (cell?_heap e0 2).trans rfl, (cell?_heap e0 4).trans rfl, (cell?_heap e1 0).trans rfl, (cell?_heap e1 1).trans rfl, ?_, ?_, ?_, ?_, (cell?_heap e0 3).trans rfl⟩
    · rw [World.ownsRow.cellAt oc cs.length (by omega), flat_wd, List.getElem?_map, List.getElem?_append_right (Nat.le_refl _)]
      simp
    · rw [World.ownsRow.cellAt oc (cs.length + 1) (by omega), flat_wd, List.getElem?_map, List.getElem?_append_right (by omega)]
      simp
    · rw [World.ownsRow.cellAt oa ts.length (by omega), List.flatMap_append]
      have : ((ps.map cutP).flatMap slP).length = ts.length := by rw [flat_len slP 1 (fun _ => rfl), List.length_map, hpl]; omega
      rw [List.getElem?_append_right (by omega), this]
      simp [slP]
    · exact (World.ownsRow.cellAt hL.o9 0 (by simp)).trans rfl
  have HS : Hid (∀ W, _ → _) := hS
  have sz : ((w.alloc (.cells #[g0, g1, .slice (some ⟨gc, 0, none⟩) (cs.length + 2) gcap, .slice ta0 ps.length tc0, .slice (some ⟨ab, 0, none⟩) (ts.length + 1) acap] 53)).alloc (.cells (litC ca cs.length cc ta ts.length tc) 49)).heap.size = w.heap.size + 2 := by rw [szAl, szAl]
  have HS2 : Hid (∀ W, Keeps (fun _ => False) ((w.alloc (.cells #[g0, g1, .slice (some ⟨gc, 0, none⟩) (cs.length + 2) gcap, .slice ta0 ps.length tc0, .slice (some ⟨ab, 0, none⟩) (ts.length + 1) acap] 53)).alloc (.cells (litC ca cs.length cc ta ts.length tc) 49)) W → W.cell? ⟨w.heap.size, 2, none⟩ = some (.slice (some ⟨gc, 0, none⟩) (cs.length + 2) gcap) ∧ W.cell? ⟨w.heap.size, 4, none⟩ = some (.slice (some ⟨ab, 0, none⟩) (ts.length + 1) acap) ∧ W.cell? ⟨w.heap.size + 1, 0, none⟩ = some (.slice ca cs.length cc) ∧ W.cell? ⟨w.heap.size + 1, 1, none⟩ = some (.slice ta ts.length tc) ∧ W.cell? ⟨gc, cs.length, none⟩ = some (.int .u64 771) ∧ W.cell? ⟨gc, cs.length + 1, none⟩ = some (.int .u64 772) ∧ W.cell? ⟨ab, ts.length, none⟩ = some (.slice (some ⟨g9, 0, none⟩) 1 c9) ∧ W.cell? ⟨g9, 0, none⟩ = some (.int .i64 79)) := fun W k => by
    obtain ⟨_, _, a1, a2, a3, a4, a5, a6, a7, a8, _⟩ := hS W k
    exact ⟨a1, a2, a3, a4, a5, a6, a7, a8⟩
  have HSW : Hid (∀ W, Keeps (fun _ => False) ((w.alloc (.cells #[g0, g1, .slice (some ⟨gc, 0, none⟩) (cs.length + 2) gcap, .slice ta0 ps.length tc0, .slice (some ⟨ab, 0, none⟩) (ts.length + 1) acap] 53)).alloc (.cells (litC ca cs.length cc ta ts.length tc) 49)) W → Calls Tryz.prog 49 #[.slice (some ⟨gc, 0, none⟩) cs.length gcap, .slice ca cs.length cc] W fun e w' => e = .returned (.bool true) ∧ Keeps (fun _ => False) W w') := fun W k => by
    obtain ⟨hL, hLi, _⟩ := hS W k
    have hk := k.size
    exact sameW W W.heap.size (Nat.le_refl _) _ gcap ca cc cs (OwG.pre hL.oc) (hLi.c.up (by rw [sz] at hk; omega)) (by omega)
  have HK0 : Hid (Keeps (fun _ => False) w ((w.alloc (.cells #[g0, g1, .slice (some ⟨gc, 0, none⟩) (cs.length + 2) gcap, .slice ta0 ps.length tc0, .slice (some ⟨ab, 0, none⟩) (ts.length + 1) acap] 53)).alloc (.cells (litC ca cs.length cc ta ts.length tc) 49)) ∧ ps.length = ts.length) := ⟨k0, hpl⟩
  have hcap : cs.length ≤ gcap := by have := (owG_cap h.oc).2.1; rw [List.length_append] at this; omega
  have hs1 : ∀ W : World, (Instr.slice 46 (.slice (some ⟨gc, 0, none⟩) (cs.length + 2) gcap) none (some (.int .i64 ((cs.length : Nat) : Int))) none).run Tryz.prog W = .ok (.slice (some ⟨gc, 0, none⟩) cs.length gcap) W := fun W => slice_toW W _ (cs.length + 2) gcap _ hcap
  have wn : IntKind.i64.wrap ((cs.length : Int) + 1) = ((cs.length + 1 : Nat) : Int) := by rw [IntKind.wrap_i64]; omega
  have n0 : (0 : Int) ≤ (cs.length : Int) := Int.natCast_nonneg _
  have n1 : (cs.length : Int) < ((cs.length + 2 : Nat) : Int) := by omega
  have n2 : (0 : Int) ≤ ((cs.length + 1 : Nat) : Int) := Int.natCast_nonneg _
  have n3 : ((cs.length + 1 : Nat) : Int) < ((cs.length + 2 : Nat) : Int) := by omega
  have m0 : (0 : Int) ≤ (ts.length : Int) := Int.natCast_nonneg _
  have m1 : (ts.length : Int) < ((ts.length + 1 : Nat) : Int) := by omega
  clear h hl k0 hS hpl hcap
  go_enter Tryz.func22, Tryz.ntmps22
  go_wp2_with fail
  generalize ((w.alloc (.cells #[g0, g1, .slice (some ⟨gc, 0, none⟩) (cs.length + 2) gcap, .slice ta0 ps.length tc0, .slice (some ⟨ab, 0, none⟩) (ts.length + 1) acap] 53)).alloc (.cells (litC ca cs.length cc ta ts.length tc) 49)) = W0 at *
  (refine wp_region_held_drew (S := (fun W => W.cell? ⟨w.heap.size, 2, none⟩ = some (.slice (some ⟨gc, 0, none⟩) (cs.length + 2) gcap) ∧ W.cell? ⟨w.heap.size, 4, none⟩ = some (.slice (some ⟨ab, 0, none⟩) (ts.length + 1) acap) ∧ W.cell? ⟨w.heap.size + 1, 0, none⟩ = some (.slice ca cs.length cc) ∧ W.cell? ⟨w.heap.size + 1, 1, none⟩ = some (.slice ta ts.length tc) ∧ W.cell? ⟨gc, cs.length, none⟩ = some (.int .u64 771) ∧ W.cell? ⟨gc, cs.length + 1, none⟩ = some (.int .u64 772) ∧ W.cell? ⟨ab, ts.length, none⟩ = some (.slice (some ⟨g9, 0, none⟩) 1 c9) ∧ W.cell? ⟨g9, 0, none⟩ = some (.int .i64 79))) (by kernel_rfl) (HS2.out _ (Keeps.refl _ _).drew) (fun hHeld => ?_); simp only [List.size_toArray, List.length_cons, List.length_nil, Nat.reduceAdd, Array.replicate_succ, Array.replicate_zero, List.push_toArray, List.append_toArray, List.nil_append, List.cons_append])
  refine rgT 0 (h := ?_)
  refine rgT 1 (h := ?_)
  refine rgT 2 (h := ?_)
  refine rgT 3 (h := ?_)
  refine rgT 4 (h := ?_)
  refine rgT 5 (h := ?_)
  (refine rgS 6 (h := fun K hK => ?_); go_simp)
  refine (HSW.out _ (Keeps.refl _ _).drew).mono ?_
  rintro e w2 ⟨rfl, k2⟩
  have HK2 : Hid (Keeps (fun _ => False) W0 w2) := (Keeps.refl _ _).drew.trans k2
  clear k2
  (refine hK.out _ _ (HS2.out _ HK2.out) (fun hHeld => ?_); clear hK K; try simp only [Act.put, List.setIfInBounds_toArray, List.set_cons_zero, List.set_cons_succ])
  refine rgT 7 (h := ?_)
  refine rgT 8 (h := ?_)
  refine rgT 9 (h := ?_)
  refine rgT 10 (h := ?_)
  refine rgT 11 (h := ?_)
  refine rgT 12 (h := ?_)
  refine rgT 13 (h := ?_)
  refine rgT 14 (h := ?_)
  refine rgT 15 (h := ?_)
  refine rgT 16 (h := ?_)
  refine rgT 17 (h := ?_)
  refine rgT 18 (h := ?_)
  refine rgT 19 (h := ?_)
  refine rgT 20 (h := ?_)
  refine rgT 21 (h := ?_)
  refine rgT 22 (h := ?_)
  refine rgT 23 (h := ?_)
  refine rgT 24 (h := ?_)
  refine rgT 25 (h := ?_)
  refine rgT 26 (h := ?_)
  refine rgT 27 (h := ?_)
  refine rgT 28 (h := ?_)
  refine rgT 29 (h := ?_)
  refine rgT 30 (h := ?_)
  refine rgT 31 (h := ?_)
  refine rgT 32 (h := ?_)
  refine rgT 33 (h := ?_)
  refine rgT 34 (h := ?_)
  refine rgT 35 (h := ?_)
  refine rgT 36 (h := ?_)
  refine rgT 37 (h := ?_)
  refine rgT 38 (h := ?_)
  refine rgT 39 (h := ?_)
  refine rgT 40 (h := ?_)
  refine rgT 41 (h := ?_)
  refine rgT 42 (h := ?_)
  refine rgT 43 (h := ?_)
  refine rgT 44 (h := ?_)
  refine rgT 45 (h := ?_)
  refine rgT 46 (h := ?_)
  refine rgT 47 (h := ?_)
  refine rgT 48 (h := ?_)
  refine wpAnyH_done (by kernel_rfl) ?_ _
  go_wp2_with fail
  go_loopw [6] (fun c wr => ∃ (t : Nat), c = .int .i64 t ∧ t ≤ ts.length ∧ Keeps (fun _ => False) W0 wr) (fun c _ => ts.length - (intOf c).toNat)
  case atStart => exact ⟨0, rfl, by omega, HK2.out⟩
  case round =>
    rename World => wq
    obtain ⟨t, rfl, ht, hk⟩ := hrel
    have HQ : Hid (Keeps (fun _ => False) W0 wq) := hk
    obtain ⟨hL, hLi, a1, a2, a3, a4, a5, a6, a7, a8, a9⟩ := HS.out wq hk
    by_cases h5 : t < ts.length
    · have t0 : (0 : Int) ≤ (t : Int) := Int.natCast_nonneg _
      have t1 : (t : Int) < (ts.length : Int) := by omega
      have t2 : (t : Int) < ((ts.length + 1 : Nat) : Int) := by omega
      have t3 : (t : Int) < (ps.length : Int) := by have := HK0.out.2; omega
      obtain ⟨tb, off, rfl, htb, ct⟩ := hLi.t t h5
      obtain ⟨ia, icap, hiv⟩ := (hLi.i t h5).form
      rw [hiv] at ct
      obtain ⟨hp, hpu, g, c, hg⟩ := hL.pu t h5
      have hoi := hL.oi ps[t] (List.getElem_mem hp)
      rw [hg, hpu] at hoi
      obtain ⟨M, hM⟩ : ∃ M, ts[t].length = M := ⟨_, rfl⟩
      have hMl : M ≤ 1099511627776 := by rw [← hM]; exact l3 t h5
      rw [hM] at ct hoi
      have hoi' : wq.ownsRow B 106 8 (.slice (some ⟨g, 0, none⟩) (M + 2) c) (M + 2) ((ts[t] ++ [mkI 77, mkI 78]).flatMap iC) := by
        unfold OwG at hoi
        rw [List.length_append, hM] at hoi
        exact hoi
      have cA : wq.cell? ⟨ab, t, none⟩ = some (.slice (some ⟨g, 0, none⟩) M c) := by
        obtain ⟨tb', off', e, _, hc⟩ := (OwG.pre hL.oa).at1 t (by rw [List.length_map]; exact hp)
        injection e with e
        injection e with e e'
        subst e e'
        rw [Nat.zero_add] at hc
        rw [hc, List.getElem_map]
        unfold cutP cutV
        rw [hg, hM]
        simp
      obtain ⟨tvb, tvc, htv, -, -⟩ := owG_some hL.ot (by intro e; rw [e] at hp; simp at hp)
      injection htv with htv hx1 htvc
      clear hx1 htvc
      subst htv
      have cT : wq.cell? ⟨tvb, t, none⟩ = some (.slice (some ⟨g, 0, none⟩) (M + 2) c) := by
        have h1 := World.ownsRow.cellAt hL.ot t (by omega)
        have e2 := flat_get slP 1 (fun _ => rfl) ps t hp 0 (by decide)
        rw [Nat.mul_one, Nat.add_zero] at e2
        rw [e2] at h1
        rw [h1]
        show some ps[t].1 = _
        rw [hg, hM]
      have hfl : (ts[t].flatMap iC).length = M * 8 := by rw [flat_len iC 8 (fun _ => rfl), hM]
      have c77 : wq.cell? ⟨g, M * 8, none⟩ = some (.int .i64 77) := by
        rw [World.ownsRow.cellAt hoi' (M * 8) (by omega), List.flatMap_append, List.getElem?_append_right (by omega), hfl, Nat.sub_self]
        rfl
      have c78 : wq.cell? ⟨g, (M + 1) * 8, none⟩ = some (.int .i64 78) := by
        rw [World.ownsRow.cellAt hoi' ((M + 1) * 8) (by omega), List.flatMap_append, List.getElem?_append_right (by omega), hfl, show (M + 1) * 8 - M * 8 = 8 from by omega]
        rfl
      have M0 : (0 : Int) ≤ (M : Int) := Int.natCast_nonneg _
      have M1 : (M : Int) < ((M + 2 : Nat) : Int) := by omega
      have wM : IntKind.i64.wrap ((M : Int) + 1) = ((M + 1 : Nat) : Int) := by rw [IntKind.wrap_i64]; omega
      have M2 : (0 : Int) ≤ ((M + 1 : Nat) : Int) := Int.natCast_nonneg _
      have M3 : ((M + 1 : Nat) : Int) < ((M + 2 : Nat) : Int) := by omega
      have HCE : Hid (∀ u, u < M → ∃ (x : I8) (ib io : Nat), ia = some ⟨ib, io, none⟩ ∧ (∀ k, k < 8 → wq.cell? ⟨g, u * 8 + k, none⟩ = (iC x)[k]?) ∧ (∀ k, k < 8 → wq.cell? ⟨ib, io + u * 8 + k, none⟩ = (iC x)[k]?)) := fun u hu => by
        have hul : u < ts[t].length := by rw [hM]; exact hu
        have hin := hLi.i t h5
        rw [hiv] at hin
        obtain ⟨ib, io, e, _, hc⟩ := InG.cell (cs := iC) (n := 8) (fun _ => rfl) hin u hul (by decide)
        refine ⟨ts[t][u], ib, io, e, fun k hk => ?_, hc⟩
        rw [World.ownsRow.cellAt hoi' (u * 8 + k) (by omega), List.flatMap_append, List.getElem?_append_left (by omega)]
        exact flat_get iC 8 (fun _ => rfl) ts[t] u hul k hk
      have HM : Hid (ts[t].length = M) := hM
      clear hM hfl hoi hoi' hpu hg hL hLi hiv hk
      go_wp2_with fail
      go_loopw [8] (fun c wr => ∃ (u : Nat), c = .int .i64 u ∧ u ≤ M ∧ Keeps (fun _ => False) wq wr) (fun c _ => M - (intOf c).toNat)
      case atStart => exact ⟨0, rfl, by omega, Keeps.refl _ _⟩
      case round =>
        obtain ⟨u, rfl, hu, hku⟩ := hrel
        have HU : Hid (Keeps (fun _ => False) wq wr) := hku
        by_cases h6 : u < M
        · have u0 : (0 : Int) ≤ (u : Int) := Int.natCast_nonneg _
          have u1 : (u : Int) < (M : Int) := by omega
          have u2 : (u : Int) < ((M + 2 : Nat) : Int) := by omega
          obtain ⟨⟨op, xc, xr, nr, ni, orr, oi, xn⟩, ib, io, rfl, q1, q2⟩ := HCE.out u h6
          have mv : ∀ {a : Addr} {v : Value}, wq.cell? a = some v → wr.cell? a = some v := fun hc => (hku.cell (cell_lt hc) (fun e => e)).trans hc
          have HSS : Hid (∀ W, W = wr.drew → W.cell? ⟨w.heap.size, 4, none⟩ = some (.slice (some ⟨ab, 0, none⟩) (ts.length + 1) acap) ∧ W.cell? ⟨ab, t, none⟩ = some (.slice (some ⟨g, 0, none⟩) M c) ∧ W.cell? ⟨w.heap.size + 1, 1, none⟩ = some (.slice (some ⟨tb, off, none⟩) ts.length tc) ∧ W.cell? ⟨tb, off + t, none⟩ = some (.slice (some ⟨ib, io, none⟩) M icap) ∧ W.cell? ⟨w.heap.size, 3, none⟩ = some (.slice (some ⟨tvb, 0, none⟩) ps.length tc0) ∧ W.cell? ⟨tvb, t, none⟩ = some (.slice (some ⟨g, 0, none⟩) (M + 2) c) ∧ W.cell? ⟨g, u * 8, none⟩ = some (.int .i64 op) ∧ W.cell? ⟨g, u * 8 + 1, none⟩ = some (.int .i64 xc) ∧ W.cell? ⟨g, u * 8 + 2, none⟩ = some (.int .i64 xr) ∧ W.cell? ⟨g, u * 8 + 3, none⟩ = some (.int .i64 nr) ∧ W.cell? ⟨g, u * 8 + 4, none⟩ = some (.int .u64 ni) ∧ W.cell? ⟨g, u * 8 + 5, none⟩ = some (.int .i64 orr) ∧ W.cell? ⟨g, u * 8 + 6, none⟩ = some (.int .u64 oi) ∧ W.cell? ⟨g, u * 8 + 7, none⟩ = some (.int .i64 xn) ∧ W.cell? ⟨ib, io + u * 8, none⟩ = some (.int .i64 op) ∧ W.cell? ⟨ib, io + u * 8 + 1, none⟩ = some (.int .i64 xc) ∧ W.cell? ⟨ib, io + u * 8 + 2, none⟩ = some (.int .i64 xr) ∧ W.cell? ⟨ib, io + u * 8 + 3, none⟩ = some (.int .i64 nr) ∧ W.cell? ⟨ib, io + u * 8 + 4, none⟩ = some (.int .u64 ni) ∧ W.cell? ⟨ib, io + u * 8 + 5, none⟩ = some (.int .i64 orr) ∧ W.cell? ⟨ib, io + u * 8 + 6, none⟩ = some (.int .u64 oi) ∧ W.cell? ⟨ib, io + u * 8 + 7, none⟩ = some (.int .i64 xn)) := fun W e => by
            rw [e]
            have b1 := mv a2
            have b2 := mv cA
            have b3 := mv a4
            have b4 := mv ct
            have b5 := mv a9
            have b6 := mv cT
            have p0 : wr.cell? ⟨g, u * 8, none⟩ = some (.int .i64 op) := mv (q1 0 (by decide))
            have s0 : wr.cell? ⟨ib, io + u * 8, none⟩ = some (.int .i64 op) := mv (q2 0 (by decide))
            have p1 : wr.cell? ⟨g, u * 8 + 1, none⟩ = some (.int .i64 xc) := mv (q1 1 (by decide))
            have s1 : wr.cell? ⟨ib, io + u * 8 + 1, none⟩ = some (.int .i64 xc) := mv (q2 1 (by decide))
            have p2 : wr.cell? ⟨g, u * 8 + 2, none⟩ = some (.int .i64 xr) := mv (q1 2 (by decide))
            have s2 : wr.cell? ⟨ib, io + u * 8 + 2, none⟩ = some (.int .i64 xr) := mv (q2 2 (by decide))
            have p3 : wr.cell? ⟨g, u * 8 + 3, none⟩ = some (.int .i64 nr) := mv (q1 3 (by decide))
            have s3 : wr.cell? ⟨ib, io + u * 8 + 3, none⟩ = some (.int .i64 nr) := mv (q2 3 (by decide))
            have p4 : wr.cell? ⟨g, u * 8 + 4, none⟩ = some (.int .u64 ni) := mv (q1 4 (by decide))
            have s4 : wr.cell? ⟨ib, io + u * 8 + 4, none⟩ = some (.int .u64 ni) := mv (q2 4 (by decide))
            have p5 : wr.cell? ⟨g, u * 8 + 5, none⟩ = some (.int .i64 orr) := mv (q1 5 (by decide))
            have s5 : wr.cell? ⟨ib, io + u * 8 + 5, none⟩ = some (.int .i64 orr) := mv (q2 5 (by decide))
            have p6 : wr.cell? ⟨g, u * 8 + 6, none⟩ = some (.int .u64 oi) := mv (q1 6 (by decide))
            have s6 : wr.cell? ⟨ib, io + u * 8 + 6, none⟩ = some (.int .u64 oi) := mv (q2 6 (by decide))
            have p7 : wr.cell? ⟨g, u * 8 + 7, none⟩ = some (.int .i64 xn) := mv (q1 7 (by decide))
            have s7 : wr.cell? ⟨ib, io + u * 8 + 7, none⟩ = some (.int .i64 xn) := mv (q2 7 (by decide))
            exact ⟨b1, b2, b3, b4, b5, b6, p0, p1, p2, p3, p4, p5, p6, p7, s0, s1, s2, s3, s4, s5, s6, s7⟩
          have HUD : Hid (Keeps (fun _ => False) wq wr.drew) := hku.drew
          clear q1 q2 mv hku
          go_wp2_with fail
          (refine wp_region_held_drew (S := (fun W => W.cell? ⟨w.heap.size, 4, none⟩ = some (.slice (some ⟨ab, 0, none⟩) (ts.length + 1) acap) ∧ W.cell? ⟨ab, t, none⟩ = some (.slice (some ⟨g, 0, none⟩) M c) ∧ W.cell? ⟨w.heap.size + 1, 1, none⟩ = some (.slice (some ⟨tb, off, none⟩) ts.length tc) ∧ W.cell? ⟨tb, off + t, none⟩ = some (.slice (some ⟨ib, io, none⟩) M icap) ∧ W.cell? ⟨w.heap.size, 3, none⟩ = some (.slice (some ⟨tvb, 0, none⟩) ps.length tc0) ∧ W.cell? ⟨tvb, t, none⟩ = some (.slice (some ⟨g, 0, none⟩) (M + 2) c) ∧ W.cell? ⟨g, u * 8, none⟩ = some (.int .i64 op) ∧ W.cell? ⟨g, u * 8 + 1, none⟩ = some (.int .i64 xc) ∧ W.cell? ⟨g, u * 8 + 2, none⟩ = some (.int .i64 xr) ∧ W.cell? ⟨g, u * 8 + 3, none⟩ = some (.int .i64 nr) ∧ W.cell? ⟨g, u * 8 + 4, none⟩ = some (.int .u64 ni) ∧ W.cell? ⟨g, u * 8 + 5, none⟩ = some (.int .i64 orr) ∧ W.cell? ⟨g, u * 8 + 6, none⟩ = some (.int .u64 oi) ∧ W.cell? ⟨g, u * 8 + 7, none⟩ = some (.int .i64 xn) ∧ W.cell? ⟨ib, io + u * 8, none⟩ = some (.int .i64 op) ∧ W.cell? ⟨ib, io + u * 8 + 1, none⟩ = some (.int .i64 xc) ∧ W.cell? ⟨ib, io + u * 8 + 2, none⟩ = some (.int .i64 xr) ∧ W.cell? ⟨ib, io + u * 8 + 3, none⟩ = some (.int .i64 nr) ∧ W.cell? ⟨ib, io + u * 8 + 4, none⟩ = some (.int .u64 ni) ∧ W.cell? ⟨ib, io + u * 8 + 5, none⟩ = some (.int .i64 orr) ∧ W.cell? ⟨ib, io + u * 8 + 6, none⟩ = some (.int .u64 oi) ∧ W.cell? ⟨ib, io + u * 8 + 7, none⟩ = some (.int .i64 xn))) (by kernel_rfl) (HSS.out _ rfl) (fun hHeld => ?_); simp only [List.size_toArray, List.length_cons, List.length_nil, Nat.reduceAdd, Array.replicate_succ, Array.replicate_zero, List.push_toArray, List.append_toArray, List.nil_append, List.cons_append])
          refine rgT 0 (h := ?_)
          refine rgT 1 (h := ?_)
          refine rgT 2 (h := ?_)
          refine rgT 3 (h := ?_)
          refine rgT 4 (h := ?_)
          refine rgT 5 (h := ?_)
          refine rgT 6 (h := ?_)
          refine rgT 7 (h := ?_)
          refine rgT 8 (h := ?_)
          refine rgT 9 (h := ?_)
          refine rgT 10 (h := ?_)
          refine rgT 11 (h := ?_)
          refine rgT 12 (h := ?_)
          refine rgT 13 (h := ?_)
          refine rgT 14 (h := ?_)
          refine rgT 15 (h := ?_)
          refine rgT 16 (h := ?_)
          refine rgT 17 (h := ?_)
          refine rgT 18 (h := ?_)
          refine rgT 19 (h := ?_)
          refine rgT 20 (h := ?_)
          refine rgT 21 (h := ?_)
          refine rgT 22 (h := ?_)
          refine rgT 23 (h := ?_)
          refine rgT 24 (h := ?_)
          refine rgT 25 (h := ?_)
          refine rgT 26 (h := ?_)
          refine rgT 27 (h := ?_)
          refine rgT 28 (h := ?_)
          refine rgT 29 (h := ?_)
          refine rgT 30 (h := ?_)
          refine rgT 31 (h := ?_)
          refine rgT 32 (h := ?_)
          refine rgT 33 (h := ?_)
          refine rgT 34 (h := ?_)
          refine rgT 35 (h := ?_)
          refine wpAnyH_done (by kernel_rfl) ?_ _
          go_wp2
          go_roundw
          case rel => exact ⟨u + 1, by go_num, by omega, HUD.out⟩
          case measure => simp [intOf]; omega
        · have HT : Hid (Keeps (fun _ => False) W0 wr) := HQ.out.trans hku
          clear hku
          go_wp2
          go_roundw
          case rel => exact ⟨t + 1, by go_num, by omega, HT.out⟩
          case measure => simp [intOf]; omega
    · clear hL hLi hk
      go_wp2
      go_ret
      exact ⟨rfl, HK0.out.1.trans HQ.out⟩
end Go.Proofs.YtdpebhdjcgiboaaGreat
