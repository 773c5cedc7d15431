import Derived.Test.YtjceellpmopnkaaDoorMf2
import Derived.Test.YtjceellpmopnkaaDoorRegG
namespace Go.Proofs.YtjceellpmopnkaaDoor
set_option linter.unusedSimpArgs false
open Go.ChangeShapes Go.WideShapes Go.ChangeAt Go.RowKit Go.Maps
set_option linter.unusedVariables false
set_option maxRecDepth 100000
set_option maxHeartbeats 6400000 in
theorem manMay_any (w : World) (gen next upto : Int) (ao : Option Addr) (cap : Nat) (ps : List PN) (hs : SeesP w w.heap.size ao ps) :
    Calls Tryd.prog 18 #[.agg #[.int .i64 gen, .int .i64 next, .int .u64 upto, .slice ao ps.length cap]] w (RetB (mayM gen next upto ps) w) := by
  have HS : Hid (SeesP w w.heap.size ao ps) := hs
  clear hs
  by_cases hh : ((1 ≤ gen ∧ gen ≤ 99999999) ∧ (1 ≤ next ∧ next ≤ 100000000) ∧ upto ≤ 4611686018427387903 ∧ ps.length ≤ 256)
  · obtain ⟨⟨g1, g2⟩, ⟨n1, n2⟩, u1, l1⟩ := hh
    obtain ⟨wb, hwb⟩ : ∃ wb, w.alloc (.cells #[.int .i64 gen, .int .i64 next, .int .u64 upto, .slice ao ps.length cap] 25) = wb := ⟨_, rfl⟩
    have HBB : Hid (Below w.heap.size w wb) := by rw [← hwb]; exact (Below.refl _ _).alloc (Nat.le_refl _) _
    have HBX : Hid (wb.heap[w.heap.size]? = some (.cells #[.int .i64 gen, .int .i64 next, .int .u64 upto, .slice ao ps.length cap] 25 (0, 0))) := by rw [← hwb]; show (w.heap.push _)[w.heap.size]? = _; exact Array.getElem?_push_size
    have b0 : wb.cell? ⟨w.heap.size, 0, none⟩ = some (.int .i64 gen) := cells_at HBX.out 0
    have b1 : wb.cell? ⟨w.heap.size, 1, none⟩ = some (.int .i64 next) := cells_at HBX.out 1
    have b2 : wb.cell? ⟨w.heap.size, 2, none⟩ = some (.int .u64 upto) := cells_at HBX.out 2
    have b3 : wb.cell? ⟨w.heap.size, 3, none⟩ = some (.slice ao ps.length cap) := cells_at HBX.out 3
    go_enter Tryd.func18, Tryd.ntmps18
    go_wp2
    go_loopw [3, 4] (fun h i wr => ∃ k : Nat, k ≤ ps.length ∧ i = .int .i64 k ∧ h = .int .u64 (lastP ps k) ∧ (∀ j (hj : j < ps.length), j < k → okP gen next upto ps j ps[j]) ∧ wr.heap[w.heap.size]? = some (.cells #[.int .i64 gen, .int .i64 next, .int .u64 upto, .slice ao ps.length cap] 25 (0, 0)) ∧ Below w.heap.size w wr) (fun _ i _ => ps.length - (intOf i).toNat)
    case atStart => exact ⟨0, Nat.zero_le _, rfl, rfl, fun j _ h => absurd h (by omega), HBX.out, HBB.out⟩
    case round =>
      obtain ⟨k, hk, rfl, rfl, hok, hbox, hbel⟩ := hrel
      have HOK : Hid (∀ j (hj : j < ps.length), j < k → okP gen next upto ps j ps[j]) := hok
      have HBO : Hid (wr.heap[w.heap.size]? = some (.cells #[.int .i64 gen, .int .i64 next, .int .u64 upto, .slice ao ps.length cap] 25 (0, 0))) := hbox
      have HBE : Hid (Below w.heap.size w wr) := hbel
      clear hok hbox hbel b0 b1 b2 b3 HBX HBB
      have f0 : wr.cell? ⟨w.heap.size, 0, none⟩ = some (.int .i64 gen) := cells_at HBO.out 0
      have f1 : wr.cell? ⟨w.heap.size, 1, none⟩ = some (.int .i64 next) := cells_at HBO.out 1
      have f2 : wr.cell? ⟨w.heap.size, 2, none⟩ = some (.int .u64 upto) := cells_at HBO.out 2
      have f3 : wr.cell? ⟨w.heap.size, 3, none⟩ = some (.slice ao ps.length cap) := cells_at HBO.out 3
      by_cases hkl : k < ps.length
      · obtain ⟨b, off, hao, hb, hat⟩ := (HS.out.later HBE.out) k hkl
        obtain ⟨c0, c1, c2, c3, c4, c5, c6, c7⟩ := hat
        have HL2 : Hid _ := lastP_succ hkl
        subst hao
        go_wp2
        (refine wp_region_held_drew (S := (fun W' => W'.cell? ⟨w.heap.size, 0, none⟩ = some (.int .i64 gen) ∧ W'.cell? ⟨w.heap.size, 1, none⟩ = some (.int .i64 next) ∧ W'.cell? ⟨w.heap.size, 2, none⟩ = some (.int .u64 upto) ∧ W'.cell? ⟨w.heap.size, 3, none⟩ = some (.slice (some ⟨b, off, none⟩) ps.length cap) ∧ W'.cell? ⟨b, off + k * 8, none⟩ = some (.int .i64 ps[k].id) ∧ W'.cell? ⟨b, off + k * 8 + 1, none⟩ = some (.int .u64 ps[k].lo) ∧ W'.cell? ⟨b, off + k * 8 + 2, none⟩ = some (.int .u64 ps[k].hi) ∧ W'.cell? ⟨b, off + k * 8 + 3, none⟩ = some (.int .i64 ps[k].rows) ∧ W'.cell? ⟨b, off + k * 8 + 4, none⟩ = some (.int .i64 ps[k].gen) ∧ W'.cell? ⟨b, off + k * 8 + 5, none⟩ = some (.int .i64 ps[k].gone) ∧ W'.cell? ⟨b, off + k * 8 + 6, none⟩ = some (.int .u32 ps[k].ds) ∧ W'.cell? ⟨b, off + k * 8 + 7, none⟩ = some (.int .u32 ps[k].es))) (by kernel_rfl) ⟨f0, f1, f2, f3, c0, c1, c2, c3, c4, c5, c6, c7⟩ (fun hHeld => ?_); simp only [List.size_toArray, List.length_cons, List.length_nil, Nat.reduceAdd, Array.replicate_succ, Array.replicate_zero, List.push_toArray, List.append_toArray, List.nil_append, List.cons_append])
        (refine tk0 (v := ?_) (by kernel_rfl) (by kernel_rfl) (by kernel_rfl) (fun _ _ _ h => h) (Or.inl ⟨by rfl, ?_⟩) (by assumption) ?_; rotate_left; (focus (intro w hSw; (try dsimp only at hSw); go_simp; (try first | (rw [dif_pos (by omega)]; simp only [Result.andThen_ok]) | rw [if_pos (by omega)]); (try with_reducible rfl); done)); try simp only [Act.put, List.setIfInBounds_toArray, List.set_cons_zero, List.set_cons_succ])
        (refine tk1 (v := ?_) (by kernel_rfl) (by kernel_rfl) (by kernel_rfl) (fun _ _ _ h => h) (Or.inl ⟨by rfl, ?_⟩) (by assumption) ?_; rotate_left; (focus (intro w hSw; (try dsimp only at hSw); go_simp; (try first | (rw [dif_pos (by omega)]; simp only [Result.andThen_ok]) | rw [if_pos (by omega)]); (try with_reducible rfl); done)); try simp only [Act.put, List.setIfInBounds_toArray, List.set_cons_zero, List.set_cons_succ])
        (refine tk2 (v := ?_) (by kernel_rfl) (by kernel_rfl) (by kernel_rfl) (fun _ _ _ h => h) (Or.inl ⟨by rfl, ?_⟩) (by assumption) ?_; rotate_left; (focus (intro w hSw; (try dsimp only at hSw); go_simp; (try first | (rw [dif_pos (by omega)]; simp only [Result.andThen_ok]) | rw [if_pos (by omega)]); (try with_reducible rfl); done)); try simp only [Act.put, List.setIfInBounds_toArray, List.set_cons_zero, List.set_cons_succ])
        (refine tk3 (v := ?_) (by kernel_rfl) (by kernel_rfl) (by kernel_rfl) (fun _ _ _ h => h) (Or.inl ⟨by rfl, ?_⟩) (by assumption) ?_; rotate_left; (focus (intro w hSw; (try dsimp only at hSw); go_simp; (try first | (rw [dif_pos (by omega)]; simp only [Result.andThen_ok]) | rw [if_pos (by omega)]); (try with_reducible rfl); done)); try simp only [Act.put, List.setIfInBounds_toArray, List.set_cons_zero, List.set_cons_succ])
        (refine tk4 (v := ?_) (by kernel_rfl) (by kernel_rfl) (by kernel_rfl) (fun _ _ _ h => h) (Or.inl ⟨by rfl, ?_⟩) (by assumption) ?_; rotate_left; (focus (intro w hSw; (try dsimp only at hSw); go_simp; (try first | (rw [dif_pos (by omega)]; simp only [Result.andThen_ok]) | rw [if_pos (by omega)]); (try with_reducible rfl); done)); try simp only [Act.put, List.setIfInBounds_toArray, List.set_cons_zero, List.set_cons_succ])
        (refine tk5 (v := ?_) (by kernel_rfl) (by kernel_rfl) (by kernel_rfl) (fun _ _ _ h => h) (Or.inl ⟨by rfl, ?_⟩) (by assumption) ?_; rotate_left; (focus (intro w hSw; (try dsimp only at hSw); go_simp; (try first | (rw [dif_pos (by omega)]; simp only [Result.andThen_ok]) | rw [if_pos (by omega)]); (try with_reducible rfl); done)); try simp only [Act.put, List.setIfInBounds_toArray, List.set_cons_zero, List.set_cons_succ])
        (refine tk6 (v := ?_) (by kernel_rfl) (by kernel_rfl) (by kernel_rfl) (fun _ _ _ h => h) (Or.inl ⟨by rfl, ?_⟩) (by assumption) ?_; rotate_left; (focus (intro w hSw; (try dsimp only at hSw); go_simp; (try first | (rw [dif_pos (by omega)]; simp only [Result.andThen_ok]) | rw [if_pos (by omega)]); (try with_reducible rfl); done)); try simp only [Act.put, List.setIfInBounds_toArray, List.set_cons_zero, List.set_cons_succ])
        (refine wpAnyH_ready (rs := [7]) (by kernel_rfl) (by simp) ?_; refine ar7 (fun K hK => ?_) AllReadyH.nil; go_simp)
        refine (nameMay_any wr.drew gen next upto _ _ _ ps[k].id ps[k].lo ps[k].hi ps[k].rows ps[k].gen ps[k].gone ps[k].ds ps[k].es (lastP ps k)).mono ?_
        rintro _ w1 ⟨c, rfl, hiff, hb1⟩
        have HIF : Hid (c = true ↔ nmMay (lastP ps k) gen next upto ps[k]) := hiff
        have HB1 : Hid (Below wr.heap.size wr w1) := (Below.refl _ _).drew.trans hb1
        have HBO1 : Hid (w1.heap[w.heap.size]? = some (.cells #[.int .i64 gen, .int .i64 next, .int .u64 upto, .slice (some ⟨b, off, none⟩) ps.length cap] 25 (0, 0))) := (HB1.out.block _ (Array.getElem?_eq_some_iff.1 HBO.out).1).trans HBO.out
        have HBE1 : Hid (Below w.heap.size w w1) := HBE.out.trans (HB1.out.mono HBE.out.size)
        obtain ⟨b', off', hao', hb', hat'⟩ := (HS.out.later HBE1.out) k hkl
        injection hao' with hao'
        injection hao' with e1 e2
        subst e1 e2
        obtain ⟨k0, k1, k2, k3, k4, k5, k6, k7⟩ := hat'
        have h0 : w1.cell? ⟨w.heap.size, 0, none⟩ = some (.int .i64 gen) := cells_at HBO1.out 0
        have h1 : w1.cell? ⟨w.heap.size, 1, none⟩ = some (.int .i64 next) := cells_at HBO1.out 1
        have h2 : w1.cell? ⟨w.heap.size, 2, none⟩ = some (.int .u64 upto) := cells_at HBO1.out 2
        have h3 : w1.cell? ⟨w.heap.size, 3, none⟩ = some (.slice (some ⟨b, off, none⟩) ps.length cap) := cells_at HBO1.out 3
        clear hiff hb1
        (refine hK.out _ _ ⟨h0, h1, h2, h3, k0, k1, k2, k3, k4, k5, k6, k7⟩ (fun hHeld => ?_); clear hK K; try simp only [Act.put, List.setIfInBounds_toArray, List.set_cons_zero, List.set_cons_succ])
        (refine tk8 (v := ?_) (by kernel_rfl) (by kernel_rfl) (by kernel_rfl) (fun _ _ _ h => h) (Or.inl ⟨by rfl, ?_⟩) (by assumption) ?_; rotate_left; (focus (intro w hSw; (try dsimp only at hSw); go_simp; (try first | (rw [dif_pos (by omega)]; simp only [Result.andThen_ok]) | rw [if_pos (by omega)]); (try with_reducible rfl); done)); try simp only [Act.put, List.setIfInBounds_toArray, List.set_cons_zero, List.set_cons_succ])
        refine wpAnyH_done (by kernel_rfl) ?_ _
        cases c
        · go_wp2
          go_ret
          exact RetB.no rfl (fun h => by have := HIF.out.2 ⟨(h.2.2.2.2 k hkl).2.1, (h.2.2.2.2 k hkl).2.2⟩; cases this) HBE1.out
        · go_wp2
          go_loopw [5] (fun i wq => ∃ j : Nat, j ≤ k ∧ i = .int .i64 j ∧ (∀ i (hi : i < ps.length), i < j → ps[i].id ≠ ps[k].id) ∧ wq.heap = w1.heap ∧ wq.os = w1.os ∧ wq.tape = w1.tape ∧ wq.output = w1.output) (fun i _ => k - (intOf i).toNat)
          case atStart => exact ⟨0, Nat.zero_le _, rfl, fun i _ h => absurd h (by omega), rfl, rfl, rfl, rfl⟩
          case round =>
            obtain ⟨j, hj, rfl, hne, hq, ho, ht, hout⟩ := hrel
            have HNE : Hid (∀ i (hi : i < ps.length), i < j → ps[i].id ≠ ps[k].id) := hne
            have HQB : Hid (Below w1.heap.size w1 wr) := ⟨ho, ht, hout, by rw [hq]; exact Nat.le_refl _, fun k _ => by rw [hq]⟩
            have HBQ : Hid (Below w.heap.size w wr) := HBE1.out.trans (HQB.out.mono HBE1.out.size)
            have hqe : Hid (wr.heap = w1.heap ∧ wr.os = w1.os ∧ wr.tape = w1.tape ∧ wr.output = w1.output) := ⟨hq, ho, ht, hout⟩
            have m3 : wr.cell? ⟨w.heap.size, 3, none⟩ = some (.slice (some ⟨b, off, none⟩) ps.length cap) := (World.cell?_of_block (w := w1) (by rw [hq])).trans h3
            have mk : wr.cell? ⟨b, off + k * 8, none⟩ = some (.int .i64 ps[k].id) := (World.cell?_of_block (w := w1) (by rw [hq])).trans k0
            have mh : wr.cell? ⟨b, off + k * 8 + 2, none⟩ = some (.int .u64 ps[k].hi) := (World.cell?_of_block (w := w1) (by rw [hq])).trans k2
            clear hne hq ho ht hout
            by_cases hjk : j < k
            · obtain ⟨b', off', hao', hb', hat'⟩ := (HS.out.later HBQ.out) j (by omega)
              injection hao' with hao'
              injection hao' with e1 e2
              subst e1 e2
              have mj := hat'.c0
              clear hat'
              by_cases heq : ps[j].id = ps[k].id
              · have HNO : Hid (¬ mayM gen next upto ps) := fun h => (h.2.2.2.2 k hkl).1 j (by omega) hjk heq
                rw [heq] at mj
                go_wp2_with fail
                go_quiet (fail)
                go_wp2
                go_ret
                exact RetB.no rfl HNO.out (HBQ.out.trans ⟨rfl, rfl, rfl, Nat.le_refl _, fun _ _ => rfl⟩)
              · have HQ : Hid (ps[j].id ≠ ps[k].id) := heq
                generalize hx : ps[j].id = x at mj heq
                generalize hy : ps[k].id = y at mk heq
                have heqb : (x == y) = false := by simpa using heq
                have HY : Hid _ := hy
                clear heq hx hy
                go_wp2_with fail
                go_quiet (fail)
                go_wp2
                go_roundw
                case rel =>
                  refine ⟨j + 1, by omega, by go_num, fun i hi hij => ?_, hqe.out⟩
                  rcases Nat.lt_or_ge i j with h | h
                  · exact fun e => HNE.out i hi h (e.trans HY.out.symm)
                  · obtain rfl : i = j := by omega
                    exact fun e => HQ.out (e.trans HY.out.symm)
                case measure => simp [intOf]; omega
            · have hjk' : j = k := by omega
              go_wp2
              go_roundw
              case rel =>
                refine ⟨k + 1, by omega, by go_num, by rw [HL2.out], fun i hi hik => ?_, (HQB.out.block _ (Array.getElem?_eq_some_iff.1 HBO1.out).1).trans HBO1.out, HBQ.out⟩
                rcases Nat.lt_or_ge i k with h | h
                · exact HOK.out i hi h
                · obtain rfl : i = k := by omega
                  have hn := HIF.out.1 (by trivial)
                  exact ⟨fun j' hj' hjk => HNE.out j' hj' (by omega), hn.1, hn.2⟩
              case measure => simp [intOf]; omega
      · have hke : k = ps.length := by omega
        subst hke
        go_wp2
        go_ret
        exact RetB.yes rfl ⟨⟨g1, g2⟩, ⟨n1, n2⟩, u1, l1, fun k hk => HOK.out k hk hk⟩ HBE.out
  · have HN : Hid (¬ mayM gen next upto ps) := fun h => hh ⟨h.1, h.2.1, h.2.2.1, h.2.2.2.1⟩
    have HB : Hid (Below w.heap.size w (w.alloc (.cells #[.int .i64 gen, .int .i64 next, .int .u64 upto, .slice ao ps.length cap] 25))) := (Below.refl _ _).alloc (Nat.le_refl _) _
    go_enter Tryd.func18, Tryd.ntmps18
    go_wp2
    all_goals first | (exfalso; omega) | (go_ret; exact RetB.no rfl HN.out HB.out)
end Go.Proofs.YtjceellpmopnkaaDoor
