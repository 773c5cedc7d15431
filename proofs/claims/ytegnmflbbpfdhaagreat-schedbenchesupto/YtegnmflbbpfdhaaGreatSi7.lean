import Derived.Test.YtegnmflbbpfdhaaGreatSi6
namespace Go.Proofs.YtegnmflbbpfdhaaGreat
set_option linter.unusedSimpArgs false
open Go.ChangeShapes Go.WideShapes Go.ChangeAt Go.RowKit Go.MuLone Go.RwLone
set_option linter.unusedVariables false
set_option maxRecDepth 100000
set_option maxHeartbeats 6400000
/-- The blocks of what was lent that wreck may change. -/
def wkQ (gc : Nat) (ps : List (Value × List I8)) (x : Nat) : Prop := x = gc ∨ ∃ v ∈ ps.map Prod.fst, v.ownBlock = some x
theorem Lt.lo {w : World} {B : Nat} {cs : List Int} {ts : List (List I8)} {gc gcap : Nat} {tvv : Value} {ab acap : Nat} {ps : List (Value × List I8)} {v79 : Value} (h : Lt w B cs ts gc gcap tvv ab acap ps v79) (x : Nat) (hx : wkQ gc ps x) : B ≤ x ∧ x < w.heap.size := by
  rcases hx with rfl | ⟨v, hv, e⟩
  · exact World.ownsRow.lt h.oc x rfl
  · obtain ⟨p, hp, rfl⟩ := List.mem_map.1 hv
    exact World.ownsRow.lt (h.oi p hp) x e
theorem wreck_any (w : World) (B : Nat) (cs : List Int) (ts : List (List I8)) (gc gcap : Nat) (tvv : Value) (ab acap : Nat) (ps : List (Value × List I8)) (v79 : Value) (h : Lt w B cs ts gc gcap tvv ab acap ps v79) (hB : B ≤ w.heap.size) (hco : csOk cs) (l1 : cs.length ≤ 1099511627776) (l2 : ts.length ≤ 1099511627776) (l3 : ∀ i (hi : i < ts.length), ts[i].length ≤ 1099511627776) :
    Calls Tryz.prog 14 #[.agg (litC (some ⟨gc, 0, none⟩) cs.length gcap (some ⟨ab, 0, none⟩) ts.length acap)] w fun e w' => e = .returned (.tuple #[]) ∧ ∃ ps', Lt w' B (cs.map flipW) (ts.map (fun l => l.map (fun _ => wrI))) gc gcap tvv ab acap ps' v79 ∧ ps'.map Prod.fst = ps.map Prod.fst ∧ Keeps (wkQ gc ps) w w' := by
  have hgl := World.ownsRow.lt h.oc gc rfl
  have hnq : ¬ wkQ gc ps w.heap.size := fun e => by have := (h.lo _ e).2; omega
  have kA : Below w.heap.size w (w.alloc (.cells (litC (some ⟨gc, 0, none⟩) cs.length gcap (some ⟨ab, 0, none⟩) ts.length acap) 27)) := (Below.refl _ _).alloc (Nat.le_refl _) _
  have HL0 : Hid (Lt (w.alloc (.cells (litC (some ⟨gc, 0, none⟩) cs.length gcap (some ⟨ab, 0, none⟩) ts.length acap) 27)) B cs ts gc gcap tvv ab acap ps v79 ∧ Keeps (wkQ gc ps) w (w.alloc (.cells (litC (some ⟨gc, 0, none⟩) cs.length gcap (some ⟨ab, 0, none⟩) ts.length acap) 27))) := ⟨h.later kA, (Keeps.refl _ _).alloc _⟩
  have sz : (w.alloc (.cells (litC (some ⟨gc, 0, none⟩) cs.length gcap (some ⟨ab, 0, none⟩) ts.length acap) 27)).heap.size = w.heap.size + 1 := szAl _ _
  have HBX : Hid (∀ W, Keeps (wkQ gc ps) (w.alloc (.cells (litC (some ⟨gc, 0, none⟩) cs.length gcap (some ⟨ab, 0, none⟩) ts.length acap) 27)) W → W.cell? ⟨w.heap.size, 0, none⟩ = some (.slice (some ⟨gc, 0, none⟩) cs.length gcap) ∧ W.cell? ⟨w.heap.size, 1, none⟩ = some (.slice (some ⟨ab, 0, none⟩) ts.length acap) ∧ ∃ cu, W.heap[w.heap.size]? = some (.cells cu 27)) := fun W k => by
    have e : W.heap[w.heap.size]? = some (.cells (litC (some ⟨gc, 0, none⟩) cs.length gcap (some ⟨ab, 0, none⟩) ts.length acap) 27) := (k.block _ (by omega) hnq).trans (heap_alloc_last _ _ _ rfl)
    exact ⟨(cell?_heap e 0).trans rfl, (cell?_heap e 1).trans rfl, _, e⟩
  have HCO : Hid (csOk cs) := hco
  have HL3 : Hid (∀ i (hi : i < ts.length), ts[i].length ≤ 1099511627776) := l3
  clear h kA hco l3
  go_enter Tryz.func14, Tryz.ntmps14
  go_wp2_with fail
  generalize w.alloc (.cells (litC (some ⟨gc, 0, none⟩) cs.length gcap (some ⟨ab, 0, none⟩) ts.length acap) 27) = w1 at *
  go_loopw [2] (fun c wr => ∃ (t : Nat) (xs : List Int), c = .int .i64 t ∧ t ≤ cs.length ∧ xs.length = cs.length ∧ (∀ i (hi : i < cs.length), xs[i]? = some (if i < t then flipW cs[i] else cs[i])) ∧ Lt wr B xs ts gc gcap tvv ab acap ps v79 ∧ Keeps (wkQ gc ps) w1 wr) (fun c _ => cs.length - (intOf c).toNat)
  case atStart => exact ⟨0, cs, rfl, by omega, rfl, fun i hi => by simp [hi], HL0.out.1, Keeps.refl _ _⟩
  case round =>
    obtain ⟨t, xs, rfl, ht, hxl, hxv, hlt, hk⟩ := hrel
    have HQ : Hid (Lt wr B xs ts gc gcap tvv ab acap ps v79 ∧ Keeps (wkQ gc ps) w1 wr ∧ xs.length = cs.length ∧ (∀ i (hi : i < cs.length), xs[i]? = some (if i < t then flipW cs[i] else cs[i]))) := ⟨hlt, hk, hxl, hxv⟩
    obtain ⟨c0, c1, cu, hcu⟩ := HBX.out wr hk
    by_cases h5 : t < cs.length
    · have t0 : (0 : Int) ≤ (t : Int) := Int.natCast_nonneg _
      have t1 : (t : Int) < (cs.length : Int) := by omega
      have hx := hxv t h5
      rw [if_neg (by omega)] at hx
      have hcb := HCO.out cs[t] (List.getElem_mem h5)
      have ctt : wr.drew.cell? ⟨gc, t, none⟩ = some (.int .u64 cs[t]) := by
        have := World.ownsRow.cellAt (show wr.ownsRow B 22 1 (.slice (some ⟨gc, 0, none⟩) (xs.length + 2) gcap) (xs.length + 2) ((xs ++ [771, 772]).flatMap wdC) from by have := hlt.oc; unfold OwW OwG at this; rw [List.length_append] at this; exact this) t (by omega)
        rw [flat_wd, List.getElem?_map, List.getElem?_append_left (by omega), hx] at this
        exact this
      have ftt : wr.drew.frozen? ⟨gc, t, none⟩ = false := World.ownsRow.frozenAt (show wr.ownsRow B 22 1 (.slice (some ⟨gc, 0, none⟩) (xs.length + 2) gcap) (xs.length + 2) ((xs ++ [771, 772]).flatMap wdC) from by have := hlt.oc; unfold OwW OwG at this; rw [List.length_append] at this; exact this) t
      have hne : ¬ w.heap.size = gc := by omega
      obtain ⟨x, hxx⟩ : ∃ x, cs[t] = x := ⟨_, rfl⟩
      rw [hxx] at ctt
      have HXT : Hid (∀ _ : Unit, cs[t] = x) := fun _ => hxx
      clear hxx hx hcb hxv hlt hk hxl c1
      go_wp2_with fail
      (refine wp_region_held_drew (S := (fun W => W.cell? ⟨w.heap.size, 0, none⟩ = some (.slice (some ⟨gc, 0, none⟩) cs.length gcap))) (by kernel_rfl) c0 (fun hHeld => ?_); simp only [List.size_toArray, List.length_cons, List.length_nil, Nat.reduceAdd, Array.replicate_succ, Array.replicate_zero, List.push_toArray, List.append_toArray, List.nil_append, List.cons_append])
      refine rgT 0 (h := ?_)
      refine rgT 1 (h := ?_)
      refine rgT 2 (h := ?_)
      refine rgT 3 (h := ?_)
      refine rgT 4 (h := ?_)
      refine rgT 5 (h := ?_)
      refine rgT 6 (h := ?_)
      (refine rgS 7 (h := fun K hK => ?_); go_simp)
      (refine hK.out _ _ c0 (fun hHeld => ?_); clear hK K; try simp only [Act.put, List.setIfInBounds_toArray, List.set_cons_zero, List.set_cons_succ])
      refine rgT 8 (h := ?_)
      refine rgT 9 (h := ?_)
      (refine rgS 10 (h := fun K hK => ?_); go_simp)
      have ks : Keeps (wkQ gc ps) w1 (wr.setCell ⟨gc, t, none⟩ (.int .u64 (flipW x))) := Keeps.setCell (B := wkQ gc ps) HQ.out.2.1 (p := ⟨gc, t, none⟩) (Or.inl rfl) _
      have c0n := (HBX.out _ ks).1
      have HN : Hid (Lt (wr.setCell ⟨gc, t, none⟩ (.int .u64 (flipW x))).drew B (xs.set t (flipW x)) ts gc gcap tvv ab acap ps v79 ∧ Keeps (wkQ gc ps) w1 (wr.setCell ⟨gc, t, none⟩ (.int .u64 (flipW x))).drew ∧ (xs.set t (flipW x)).length = cs.length ∧ (∀ i (hi : i < cs.length), (xs.set t (flipW x))[i]? = some (if i < t + 1 then flipW cs[i] else cs[i]))) := by
        refine ⟨(HQ.out.1.setC t (by have := HQ.out.2.2.1; omega) (flipW x)).later (Below.refl _ _).drew, ks.drew, by simp [HQ.out.2.2.1], fun i hi => ?_⟩
        rw [List.getElem?_set]
        by_cases e : t = i
        · subst e
          rw [if_pos rfl, if_pos (by have := HQ.out.2.2.1; omega), if_pos (by omega), HXT.out ()]
        · rw [if_neg e, HQ.out.2.2.2 i hi]
          by_cases e2 : i < t
          · rw [if_pos e2, if_pos (by omega)]
          · rw [if_neg e2, if_neg (by omega)]
      clear ks
      (refine hK.out _ _ c0n (fun hHeld => ?_); clear hK K; try simp only [Act.put, List.setIfInBounds_toArray, List.set_cons_zero, List.set_cons_succ])
      refine wpAnyH_done (by kernel_rfl) ?_ _
      clear c0n ctt ftt
      go_wp2
      go_roundw
      case rel => exact ⟨t + 1, _, by go_num, by omega, HN.out.2.2.1, HN.out.2.2.2, HN.out.1, HN.out.2.1⟩
      case measure => simp [intOf]; omega
    · have hxe : xs = cs.map flipW := by
        apply List.ext_getElem?
        intro i
        rcases Nat.lt_or_ge i cs.length with hi | hi
        · rw [hxv i hi, if_pos (by omega), List.getElem?_map, List.getElem?_eq_getElem hi]
          rfl
        · rw [List.getElem?_eq_none (by omega), List.getElem?_eq_none (by simpa using hi)]
      subst hxe
      have HQ2 : Hid (Lt wr B (cs.map flipW) ts gc gcap tvv ab acap ps v79 ∧ Keeps (wkQ gc ps) w1 wr) := ⟨hlt, hk⟩
      clear hxv hlt hk hxl HQ
      go_wp2_with fail
      clear c0 c1
      generalize hXS : cs.map flipW = XS at *
      have HXS : Hid (cs.map flipW = XS) := hXS
      clear hXS
      go_loopw [3] (fun c wr => ∃ (t : Nat) (L : List (List I8)) (ps' : List (Value × List I8)), c = .int .i64 t ∧ t ≤ ts.length ∧ L.length = ts.length ∧ (∀ i (hi : i < ts.length), ∃ l, L[i]? = some l ∧ l.length = ts[i].length ∧ (i < t → ∀ k, k < l.length → l[k]? = some wrI)) ∧ Lt wr B XS L gc gcap tvv ab acap ps' v79 ∧ Keeps (wkQ gc ps) w1 wr ∧ ps'.map Prod.fst = ps.map Prod.fst) (fun c _ => ts.length - (intOf c).toNat)
      case atStart => exact ⟨0, ts, ps, rfl, by omega, rfl, fun i hi => ⟨ts[i], List.getElem?_eq_getElem hi, rfl, fun e => by omega⟩, HQ2.out.1, HQ2.out.2, rfl⟩
      case round =>
        obtain ⟨t, L, ps', rfl, ht, hLl, hLv, hlt, hk, hff⟩ := hrel
        have HFF : Hid (ps'.map Prod.fst = ps.map Prod.fst) := hff
        clear hff
        have HQ3 : Hid (Lt wr B XS L gc gcap tvv ab acap ps' v79 ∧ Keeps (wkQ gc ps) w1 wr ∧ L.length = ts.length ∧ (∀ i (hi : i < ts.length), ∃ l, L[i]? = some l ∧ l.length = ts[i].length ∧ (i < t → ∀ k, k < l.length → l[k]? = some wrI))) := ⟨hlt, hk, hLl, hLv⟩
        obtain ⟨c0, c1, cu, hcu⟩ := HBX.out wr hk
        clear hlt hk hLl hLv HQ2 c0
        by_cases h6 : t < ts.length
        · have t0 : (0 : Int) ≤ (t : Int) := Int.natCast_nonneg _
          have t1 : (t : Int) < (ts.length : Int) := by omega
          obtain ⟨M, hM⟩ : ∃ M, ts[t].length = M := ⟨_, rfl⟩
          have HM : Hid (ts[t].length = M) := hM
          have hMl : M ≤ 1099511627776 := by rw [← hM]; exact HL3.out t h6
          clear hM
          go_wp2_with fail
          clear c1
          go_loopw [4] (fun c wr => ∃ (j : Nat) (L : List (List I8)) (ps' : List (Value × List I8)), c = .int .i64 j ∧ j ≤ M ∧ L.length = ts.length ∧ (∀ i (hi : i < ts.length), ∃ l, L[i]? = some l ∧ l.length = ts[i].length ∧ (i < t → ∀ k, k < l.length → l[k]? = some wrI) ∧ (i = t → ∀ k, k < j → l[k]? = some wrI)) ∧ Lt wr B XS L gc gcap tvv ab acap ps' v79 ∧ Keeps (wkQ gc ps) w1 wr ∧ ps'.map Prod.fst = ps.map Prod.fst) (fun c _ => M - (intOf c).toNat)
          case atStart => exact ⟨0, L, ps', rfl, by omega, HQ3.out.2.2.1, fun i hi => by
              obtain ⟨l, a1, a2, a3⟩ := HQ3.out.2.2.2 i hi
              exact ⟨l, a1, a2, a3, fun _ k hk => by omega⟩, HQ3.out.1, HQ3.out.2.1, HFF.out⟩
          case round =>
            obtain ⟨j, L, ps', rfl, hj, hLl, hLv, hlt, hk, hff⟩ := hrel
            have HF2 : Hid (ps'.map Prod.fst = ps.map Prod.fst) := hff
            clear hff
            have HQ4 : Hid (Lt wr B XS L gc gcap tvv ab acap ps' v79 ∧ Keeps (wkQ gc ps) w1 wr ∧ L.length = ts.length ∧ (∀ i (hi : i < ts.length), ∃ l, L[i]? = some l ∧ l.length = ts[i].length ∧ (i < t → ∀ k, k < l.length → l[k]? = some wrI) ∧ (i = t → ∀ k, k < j → l[k]? = some wrI))) := ⟨hlt, hk, hLl, hLv⟩
            obtain ⟨c0, c1, cu, hcu⟩ := HBX.out wr hk
            obtain ⟨l, a1, a2, a3, a4⟩ := hLv t h6
            have hLt : t < L.length := by omega
            have hlL : L[t] = l := by rw [List.getElem?_eq_getElem hLt] at a1; exact Option.some.inj a1
            obtain ⟨hp, hpu, g, c, hg⟩ := hlt.pu t hLt
            have hoi := hlt.oi ps'[t] (List.getElem_mem hp)
            rw [hg, hpu, hlL] at hoi
            have hlM : l.length = M := by rw [a2]; exact HM.out
            rw [hlM] at hoi
            have hgb := World.ownsRow.lt hoi g rfl
            have hwz := hk.size
            have cA : wr.cell? ⟨ab, t, none⟩ = some (.slice (some ⟨g, 0, none⟩) M c) := by
              obtain ⟨tb, off, e, _, hc⟩ := (OwG.pre hlt.oa).at1 t (by rw [List.length_map]; exact hp)
              injection e with e
              injection e with e e'
              subst e e'
              rw [Nat.zero_add] at hc
              rw [hc, List.getElem_map]
              unfold cutP cutV
              rw [hg, hlL, hlM]
              simp
            have j0 : (0 : Int) ≤ (j : Int) := Int.natCast_nonneg _
            by_cases h7 : j < M
            · have j1 : (j : Int) < (M : Int) := by omega
              have hoi' : wr.ownsRow B 31 8 (.slice (some ⟨g, 0, none⟩) (M + 2) c) (M + 2) ((l ++ [mkI 77, mkI 78]).flatMap iC) := by
                unfold OwG at hoi
                rw [List.length_append, hlM] at hoi
                exact hoi
              obtain ⟨v0, d0⟩ : ∃ v, wr.cell? ⟨g, j * 8, none⟩ = some v := ⟨_, (World.ownsRow.cellAt hoi' (j * 8) (by omega)).trans (List.getElem?_eq_getElem (by rw [flat_len iC 8 (fun _ => rfl), List.length_append, hlM]; omega))⟩
              have z0 : wr.frozen? ⟨g, j * 8, none⟩ = false := World.ownsRow.frozenAt hoi' (j * 8)
              obtain ⟨v1, d1⟩ : ∃ v, wr.cell? ⟨g, j * 8 + 1, none⟩ = some v := ⟨_, (World.ownsRow.cellAt hoi' (j * 8 + 1) (by omega)).trans (List.getElem?_eq_getElem (by rw [flat_len iC 8 (fun _ => rfl), List.length_append, hlM]; omega))⟩
              have z1 : wr.frozen? ⟨g, j * 8 + 1, none⟩ = false := World.ownsRow.frozenAt hoi' (j * 8 + 1)
              obtain ⟨v2, d2⟩ : ∃ v, wr.cell? ⟨g, j * 8 + 2, none⟩ = some v := ⟨_, (World.ownsRow.cellAt hoi' (j * 8 + 2) (by omega)).trans (List.getElem?_eq_getElem (by rw [flat_len iC 8 (fun _ => rfl), List.length_append, hlM]; omega))⟩
              have z2 : wr.frozen? ⟨g, j * 8 + 2, none⟩ = false := World.ownsRow.frozenAt hoi' (j * 8 + 2)
              obtain ⟨v3, d3⟩ : ∃ v, wr.cell? ⟨g, j * 8 + 3, none⟩ = some v := ⟨_, (World.ownsRow.cellAt hoi' (j * 8 + 3) (by omega)).trans (List.getElem?_eq_getElem (by rw [flat_len iC 8 (fun _ => rfl), List.length_append, hlM]; omega))⟩
              have z3 : wr.frozen? ⟨g, j * 8 + 3, none⟩ = false := World.ownsRow.frozenAt hoi' (j * 8 + 3)
              obtain ⟨v4, d4⟩ : ∃ v, wr.cell? ⟨g, j * 8 + 4, none⟩ = some v := ⟨_, (World.ownsRow.cellAt hoi' (j * 8 + 4) (by omega)).trans (List.getElem?_eq_getElem (by rw [flat_len iC 8 (fun _ => rfl), List.length_append, hlM]; omega))⟩
              have z4 : wr.frozen? ⟨g, j * 8 + 4, none⟩ = false := World.ownsRow.frozenAt hoi' (j * 8 + 4)
              obtain ⟨v5, d5⟩ : ∃ v, wr.cell? ⟨g, j * 8 + 5, none⟩ = some v := ⟨_, (World.ownsRow.cellAt hoi' (j * 8 + 5) (by omega)).trans (List.getElem?_eq_getElem (by rw [flat_len iC 8 (fun _ => rfl), List.length_append, hlM]; omega))⟩
              have z5 : wr.frozen? ⟨g, j * 8 + 5, none⟩ = false := World.ownsRow.frozenAt hoi' (j * 8 + 5)
              obtain ⟨v6, d6⟩ : ∃ v, wr.cell? ⟨g, j * 8 + 6, none⟩ = some v := ⟨_, (World.ownsRow.cellAt hoi' (j * 8 + 6) (by omega)).trans (List.getElem?_eq_getElem (by rw [flat_len iC 8 (fun _ => rfl), List.length_append, hlM]; omega))⟩
              have z6 : wr.frozen? ⟨g, j * 8 + 6, none⟩ = false := World.ownsRow.frozenAt hoi' (j * 8 + 6)
              obtain ⟨v7, d7⟩ : ∃ v, wr.cell? ⟨g, j * 8 + 7, none⟩ = some v := ⟨_, (World.ownsRow.cellAt hoi' (j * 8 + 7) (by omega)).trans (List.getElem?_eq_getElem (by rw [flat_len iC 8 (fun _ => rfl), List.length_append, hlM]; omega))⟩
              have z7 : wr.frozen? ⟨g, j * 8 + 7, none⟩ = false := World.ownsRow.frozenAt hoi' (j * 8 + 7)
              have hset := owI_set hoi j (by rw [List.length_append, hlM]; omega) wrI
              have hkp : Keeps (fun x => x = g) wr ((((((((wr.setCell ⟨g, j * 8, none⟩ (.int .i64 2)).setCell ⟨g, j * 8 + 1, none⟩ (.int .i64 0)).setCell ⟨g, j * 8 + 2, none⟩ (.int .i64 0)).setCell ⟨g, j * 8 + 3, none⟩ (.int .i64 (-1))).setCell ⟨g, j * 8 + 4, none⟩ (.int .u64 77)).setCell ⟨g, j * 8 + 5, none⟩ (.int .i64 0)).setCell ⟨g, j * 8 + 6, none⟩ (.int .u64 0)).setCell ⟨g, j * 8 + 7, none⟩ (.int .i64 0)) := Keeps.setCell (B := fun x => x = g) (Keeps.setCell (B := fun x => x = g) (Keeps.setCell (B := fun x => x = g) (Keeps.setCell (B := fun x => x = g) (Keeps.setCell (B := fun x => x = g) (Keeps.setCell (B := fun x => x = g) (Keeps.setCell (B := fun x => x = g) (Keeps.setCell (B := fun x => x = g) (Keeps.refl _ _) rfl _) rfl _) rfl _) rfl _) rfl _) rfl _) rfl _) rfl _
              have HN : Hid (∃ L2 ps2, L2.length = ts.length ∧ (∀ i (hi : i < ts.length), ∃ l, L2[i]? = some l ∧ l.length = ts[i].length ∧ (i < t → ∀ k, k < l.length → l[k]? = some wrI) ∧ (i = t → ∀ k, k < j + 1 → l[k]? = some wrI)) ∧ Lt ((((((((wr.setCell ⟨g, j * 8, none⟩ (.int .i64 2)).setCell ⟨g, j * 8 + 1, none⟩ (.int .i64 0)).setCell ⟨g, j * 8 + 2, none⟩ (.int .i64 0)).setCell ⟨g, j * 8 + 3, none⟩ (.int .i64 (-1))).setCell ⟨g, j * 8 + 4, none⟩ (.int .u64 77)).setCell ⟨g, j * 8 + 5, none⟩ (.int .i64 0)).setCell ⟨g, j * 8 + 6, none⟩ (.int .u64 0)).setCell ⟨g, j * 8 + 7, none⟩ (.int .i64 0)) B XS L2 gc gcap tvv ab acap ps2 v79 ∧ Keeps (wkQ gc ps) w1 ((((((((wr.setCell ⟨g, j * 8, none⟩ (.int .i64 2)).setCell ⟨g, j * 8 + 1, none⟩ (.int .i64 0)).setCell ⟨g, j * 8 + 2, none⟩ (.int .i64 0)).setCell ⟨g, j * 8 + 3, none⟩ (.int .i64 (-1))).setCell ⟨g, j * 8 + 4, none⟩ (.int .u64 77)).setCell ⟨g, j * 8 + 5, none⟩ (.int .i64 0)).setCell ⟨g, j * 8 + 6, none⟩ (.int .u64 0)).setCell ⟨g, j * 8 + 7, none⟩ (.int .i64 0)) ∧ ps2.map Prod.fst = ps.map Prod.fst) := by
                have hjl : j < L[t].length := by rw [hlL, hlM]; exact h7
                have hmf : ps'[t].1 ∈ ps.map Prod.fst := by rw [← HF2.out]; exact List.mem_map.2 ⟨_, List.getElem_mem hp, rfl⟩
                refine ⟨L.set t (L[t].set j wrI), ps'.set t (ps'[t].1, ps'[t].2.set j wrI), by rw [List.length_set]; exact hLl, fun i hi => ?_, hlt.setI t j hLt hjl wrI hp g c hg hkp ?_, hk.trans (hkp.mono (fun x e => by rw [e]; exact Or.inr ⟨_, hmf, by rw [hg]; rfl⟩)), by rw [List.map_set, ← HF2.out]; apply List.ext_getElem?; intro m; rw [List.getElem?_set]; by_cases em : t = m <;> simp [em, List.getElem?_map]; subst em; rw [List.getElem?_eq_getElem hp]; simp [hp]⟩
                · by_cases e : t = i
                  · subst e
                    refine ⟨l.set j wrI, ?_, by rw [List.length_set]; exact a2, fun e => by omega, fun _ k hk => ?_⟩
                    · rw [List.getElem?_set_self hLt, hlL]
                    · rw [List.getElem?_set]
                      by_cases e2 : j = k
                      · rw [if_pos e2, if_pos (by omega)]
                      · rw [if_neg e2]
                        exact a4 rfl k (by omega)
                  · obtain ⟨l', b1, b2, b3, b4⟩ := hLv i hi
                    refine ⟨l', ?_, b2, b3, fun e' => absurd e'.symm e⟩
                    rw [List.getElem?_set_ne e]
                    exact b1
                · rw [hpu, hlL, hlM]
                  exact hset
              clear hset hkp hoi hoi' a1 a2 a3 a4 hLv hLl hlt hk hpu hg hgb hlL hlM c0 HQ4 hcu
              go_wp2
              go_roundw
              case rel =>
                obtain ⟨L2, ps2, q1, q2, q3, q4, q5⟩ := HN.out
                exact ⟨j + 1, L2, ps2, by go_num, by omega, q1, q2, q3, q4, q5⟩
              case measure => simp [intOf]; omega
            · have hjM : j = M := by omega
              have HN : Hid (L.length = ts.length ∧ (∀ i (hi : i < ts.length), ∃ l, L[i]? = some l ∧ l.length = ts[i].length ∧ (i < t + 1 → ∀ k, k < l.length → l[k]? = some wrI)) ∧ Lt wr B XS L gc gcap tvv ab acap ps' v79 ∧ Keeps (wkQ gc ps) w1 wr ∧ ps'.map Prod.fst = ps.map Prod.fst) := by
                refine ⟨hLl, fun i hi => ?_, hlt, hk, HF2.out⟩
                obtain ⟨l', b1, b2, b3, b4⟩ := hLv i hi
                refine ⟨l', b1, b2, fun e k hk => ?_⟩
                by_cases e2 : i = t
                · subst e2
                  exact b4 rfl k (by rw [hjM, ← HM.out, ← b2]; exact hk)
                · exact b3 (by omega) k hk
              clear hoi a1 a2 a3 a4 hLv hLl hlt hk hpu hg hgb hlL hlM c0 HQ4 hcu hjM
              go_wp2
              go_roundw
              case rel => exact ⟨t + 1, L, ps', by go_num, by omega, HN.out⟩
              case measure => simp [intOf]; omega
        · have hLe : L = ts.map (fun l => l.map (fun _ => wrI)) := by
            apply List.ext_getElem?
            intro i
            rcases Nat.lt_or_ge i ts.length with hi | hi
            · obtain ⟨l, b1, b2, b3⟩ := HQ3.out.2.2.2 i hi
              rw [b1, List.getElem?_map, List.getElem?_eq_getElem hi]
              show some l = some (ts[i].map (fun _ => wrI))
              congr 1
              apply List.ext_getElem?
              intro k
              rcases Nat.lt_or_ge k l.length with hk | hk
              · rw [b3 (by omega) k hk, List.getElem?_map, List.getElem?_eq_getElem (by omega)]
                rfl
              · rw [List.getElem?_eq_none hk, List.getElem?_eq_none (by rw [List.length_map]; omega)]
            · rw [List.getElem?_eq_none (by have := HQ3.out.2.2.1; omega), List.getElem?_eq_none (by rw [List.length_map]; exact hi)]
          have HX : Hid (∃ ps', Lt wr B XS (ts.map (fun l => l.map (fun _ => wrI))) gc gcap tvv ab acap ps' v79 ∧ ps'.map Prod.fst = ps.map Prod.fst ∧ Keeps (wkQ gc ps) w wr) := ⟨ps', by rw [← hLe]; exact HQ3.out.1, HFF.out, HL0.out.2.trans HQ3.out.2.1⟩
          clear hLe hcu
          go_wp2
          refine ⟨rfl, .tuple #[], by simp [results, Tryz.results14], rfl, ?_⟩
          rw [HXS.out]
          exact HX.out
end Go.Proofs.YtegnmflbbpfdhaaGreat
