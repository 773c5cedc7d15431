import Derived.Test.YtmolfemcciljjaaCoD3
namespace Go.Proofs.Ytmolfemcciljjaa
set_option linter.unusedSimpArgs false
open Go.ChangeShapes Go.WideShapes Go.ChangeAt Go.RowKit
set_option linter.unusedVariables false
set_option maxRecDepth 100000
set_option maxHeartbeats 3200000 in
theorem commitOf_any (s : ByteArray) (w : World) (hs : s.size ≤ 1125899906842624) : Calls Try.prog 14 #[.string s] w (CoC w (rdCo s)) := by
  have HZ : Hid (Wc2 ((w.alloc (.cells #[.int .u64 0, .slice none 0 0] 25)).alloc (.cells #[.string s, .int .i64 0] 53)) w.heap.size (.int .u64 0) (.slice none 0 0)) := (Below.heap_alloc _ _ _ (by simp)).trans (heap_alloc_new w _)
  have HR : Hid (RdC ((w.alloc (.cells #[.int .u64 0, .slice none 0 0] 25)).alloc (.cells #[.string s, .int .i64 0] 53)) (w.heap.size + 1) s 0) := by
    have := heap_alloc_new (w.alloc (.cells #[.int .u64 0, .slice none 0 0] 25)) (.cells #[.string s, .int .i64 0] 53)
    rw [show (w.alloc (.cells #[.int .u64 0, .slice none 0 0] 25)).heap.size = w.heap.size + 1 from by simp] at this
    exact this
  have HB : Hid (Below w.heap.size w ((w.alloc (.cells #[.int .u64 0, .slice none 0 0] 25)).alloc (.cells #[.string s, .int .i64 0] 53))) := ((Below.refl _ _).alloc (Nat.le_refl _) _).alloc (by simp) _
  have HD : Hid (rdCo s = if (ruV s 0).2.2 = 0 then
    if (ruV s (ruV s 0).2.1).2.2 = 0 ∧ (ruV s (ruV s 0).2.1).1 ≤ 128 then
      match rdWs s (ruV s (ruV s 0).2.1).1 ((ruV s 0).2.1 + (ruV s (ruV s 0).2.1).2.1) with
      | none => none
      | some (l, r) => if r = s.size ∧ mayC ((ruV s 0).1 : Nat) l = true then some ((((ruV s 0).1 : Nat) : Int), l) else none
    else none
  else none) := rfl
  have hT := takeU (w.heap.size + 1) s 0 _ HR.out (Nat.zero_le _) hs
  rw [Nat.zero_add] at hT
  have hbn := ruV_bound s 0
  go_enter Try.func14, Try.ntmps14
  go_wp2_with fail
  generalize (w.alloc (.cells #[.int .u64 0, .slice none 0 0] 25)).alloc (.cells #[.string s, .int .i64 0] 53) = W1 at *
  by_cases c1 : (ruV s 0).2.2 = 0
  · rw [if_pos c1] at HD
    rw [if_pos c1] at hT
    have hin := hbn.2.2.2.2 c1
    rw [Nat.zero_add] at hin
    clear hbn c1
    generalize (ruV s 0).1 = st at *
    generalize (ruV s 0).2.1 = p1 at *
    refine hT.mono ?_
    clear hT
    rintro e w2 ⟨hf2, ⟨n2, hn2, rfl, hr2⟩ | ⟨hn2, rfl⟩⟩
    · obtain rfl : p1 = n2 := Option.some.inj hn2
      have hR2 : w.heap.size + 1 < w2.heap.size := hr2.lt
      have HB2 : Hid (Below w.heap.size w w2) := HB.out.trans (hf2.toBelow.mono (by omega))
      have HZ2 : Hid (Wc2 w2 w.heap.size (.int .u64 0) (.slice none 0 0)) := HZ.out.fr hf2 (by omega)
      have hal : Below w2.heap.size w2 (w2.alloc (.cells #[.int .u64 (st : Nat), .slice none 0 0] 25)) := (Below.refl _ _).alloc (Nat.le_refl _) _
      have HG3 : Hid (Wc2 (w2.alloc (.cells #[.int .u64 (st : Nat), .slice none 0 0] 25)) w2.heap.size (.int .u64 (st : Nat)) (.slice none 0 0)) := heap_alloc_new w2 _
      have HB3 : Hid (Below w.heap.size w (w2.alloc (.cells #[.int .u64 (st : Nat), .slice none 0 0] 25))) := HB2.out.trans (hal.mono HB2.out.size)
      have HZ3 : Hid (Wc2 (w2.alloc (.cells #[.int .u64 (st : Nat), .slice none 0 0] 25)) w.heap.size (.int .u64 0) (.slice none 0 0)) := HZ2.out.later hal
      have HR3 : Hid (RdC (w2.alloc (.cells #[.int .u64 (st : Nat), .slice none 0 0] 25)) (w.heap.size + 1) s p1) := hr2.later hal
      have hT := takeU (w.heap.size + 1) s p1 _ HR3.out hin hs
      have hbn := ruV_bound s p1
      clear hf2 hr2 hn2 HB2 HZ2 hal HB HZ HR
      go_wp2_with fail
      generalize w2.alloc (.cells #[.int .u64 (st : Nat), .slice none 0 0] 25) = W2 at *
      by_cases c2 : (ruV s p1).2.2 = 0
      · rw [if_pos c2] at hT
        have hin2 := hbn.2.2.2.2 c2
        by_cases c3 : (ruV s p1).1 ≤ 128
        · rw [if_pos ⟨c2, c3⟩] at HD
          clear c2 hbn
          generalize (ruV s p1).1 = n at *
          generalize (ruV s p1).2.1 = m at *
          refine hT.mono ?_
          clear hT
          rintro e w3 ⟨hf3, ⟨n3, hn3, rfl, hr3⟩ | ⟨hn3, rfl⟩⟩
          · obtain rfl : p1 + m = n3 := Option.some.inj hn3
            have HB4 : Hid (Below w.heap.size w w3) := HB3.out.trans (hf3.toBelow.mono (by omega))
            have HZ4 : Hid (Wc2 w3 w.heap.size (.int .u64 0) (.slice none 0 0)) := HZ3.out.fr hf3 (by omega)
            have HG4 : Hid (Wc2 w3 w2.heap.size (.int .u64 (st : Nat)) (.slice none 0 0)) := HG3.out.fr hf3 (by omega)
            have HR4 : Hid (RdC w3 (w.heap.size + 1) s (p1 + m)) := hr3
            clear hf3 hr3 hn3 HB3 HZ3 HG3 HR3
            have hg3 : w2.heap.size < w3.heap.size := HG4.out.lt
            obtain ⟨i0, hi, hz0, hz1, hz2⟩ := info_parts infoW
            go_wp2_with (at_make; refine wpList_make_full _ (by rfl) _ _ 23 (by rfl) (w.heap.size + 1) 47 i0 (.agg #[.int .i64 0, .string ⟨#[]⟩, .string ⟨#[]⟩]) 3 Try.underlying23 hi hz0 hz1 .u64 .u64 _ _ n (by rfl) (by rfl) (by rfl) (by rfl) (by rw [hz2]; omega) (by unfold maxLen; omega) (by omega) ?_; intro w4 hown4 hgrow4; have hb4 : Below w3.heap.size w3 w4 := (Below.refl _ _).grown hgrow4 (Nat.le_refl _) (fun k h => by cases h); have q0 := (HG4.out.later hb4).c0; have q1 := (HG4.out.later hb4).c1; have x1 := (HG4.out.later hb4).free 1; have HO4 : Hid _ := hown4; have HB5 : Hid _ := hb4; clear hown4 hgrow4 hb4)
            have HS : Hid (CoS w (w.heap.size + 1) w2.heap.size w3.heap.size n s (st : Nat) (w4.setCell ⟨w2.heap.size, 1, none⟩ (.slice (some ⟨w3.heap.size, 0, none⟩) n n)) (p1 + m) (List.replicate n ((0 : Int), (⟨#[]⟩ : ByteArray), (⟨#[]⟩ : ByteArray)))) := by
              have b4 : Below w3.heap.size w3 w4 := HB5.out
              have hrl := HR4.out.lt
              refine ⟨?_, ?_, ?_, ?_, ?_, by simp, by omega, by omega, by omega, by omega, by omega, by omega⟩
              · exact (HB4.out.trans (b4.mono HB4.out.size)).setCell (p := ⟨w2.heap.size, 1, none⟩) (by simp only; omega) _
              · exact (HZ4.out.later b4).other (p := ⟨w2.heap.size, 1, none⟩) _ (by simp only; omega)
              · exact (HR4.out.later b4).other (p := ⟨w2.heap.size, 1, none⟩) _ (by simp only; omega)
              · exact (HG4.out.later b4).set1 _
              · exact (made_ownW HO4.out).one (Below.heap_setCell _ _ _ _ (by simp only; omega))
            have hgl : w2.heap.size ≠ w3.heap.size := by omega
            clear HO4 HB5 HB4 HZ4 HG4 HR4 q0 q1 x1 hi hz0 hz1 hz2
            generalize w4.setCell ⟨w2.heap.size, 1, none⟩ (.slice (some ⟨w3.heap.size, 0, none⟩) n n) = W4 at *
            generalize hgg : w2.heap.size = g at *
            generalize hgr : w3.heap.size = gr at *
            clear hgg hgr hgl hg3 hR2
            have HQ : Hid (∃ x, x = restW s [] n (p1 + m)) := ⟨_, rfl⟩
            go_loopw [24] (fun i wr => ∃ (k p : Nat) (ms : List W3), k ≤ n ∧ i = .int .i64 k ∧ p ≤ s.size ∧ CoS w (w.heap.size + 1) g gr n s (st : Nat) wr p ms ∧ restW s [] n (p1 + m) = restW s (ms.take k) (n - k) p) (fun i _ => n - (intOf i).toNat)
            case atStart => exact ⟨0, p1 + m, _, by omega, rfl, hin2, HS.out, by simp⟩
            case round =>
              obtain ⟨k, p, ms, hk, rfl, hps, hS, hrest⟩ := hrel
              have HSk : Hid (CoS w (w.heap.size + 1) g gr n s (st : Nat) wr p ms) := hS
              have HRs : Hid (restW s [] n (p1 + m) = restW s (ms.take k) (n - k) p) := hrest
              clear hrest hS
              by_cases hlt : k < n
              · have c1 := HSk.out.hg.c1
                have hW := writeC (w.heap.size + 1) s p wr HSk.out.rd hps hs
                have hW' : Calls Try.prog 25 #[.pointer (some ⟨w.heap.size + 1, 0, none⟩)] wr.drew (WrC (w.heap.size + 1) s p wr.drew) := writeC (w.heap.size + 1) s p wr.drew HSk.out.drew.rd hps hs
                have HW : Hid (∀ _ : Unit, _) := fun _ => hW'
                clear hW hW'
                cases hv : rdWr s p with
                | none =>
                  have HN : Hid (rdCo s = none) := by
                    show _ = _
                    have h1 := HRs.out
                    rw [show n - k = n - (k + 1) + 1 from by omega, restW_no hv] at h1
                    unfold restW at h1
                    rw [HD.out]
                    cases hx : rdWs s n (p1 + m) with
                    | none => rfl
                    | some y => obtain ⟨l, r⟩ := y; rw [hx] at h1; cases h1
                  go_wp2_with fail
                  (refine wp_region_held_drew (S := (fun W => W.cell? ⟨g, 1, none⟩ = some (.slice (some ⟨gr, 0, none⟩) n n))) (by kernel_rfl) c1 (fun hHeld => ?_); simp only [List.size_toArray, List.length_cons, List.length_nil, Nat.reduceAdd, Array.replicate_succ, Array.replicate_zero, List.push_toArray, List.append_toArray, List.nil_append, List.cons_append])
                  (refine tk0 (v := ?_) (by kernel_rfl) (by kernel_rfl) (by kernel_rfl) (fun _ _ _ h => h) (Or.inl ⟨by rfl, ?_⟩) (by assumption) ?_; rotate_left; (focus (intro w hSw; (try dsimp only at hSw); go_simp; (try first | (rw [dif_pos (by omega)]; simp only [Result.andThen_ok]) | rw [if_pos (by omega)]); (try with_reducible rfl); done)); try simp only [Act.put, List.setIfInBounds_toArray, List.set_cons_zero, List.set_cons_succ])
                  (refine tk1 (v := ?_) (by kernel_rfl) (by kernel_rfl) (by kernel_rfl) (fun _ _ _ h => h) (Or.inl ⟨by rfl, ?_⟩) (by assumption) ?_; rotate_left; (focus (intro w hSw; (try dsimp only at hSw); go_simp; (try first | (rw [dif_pos (by omega)]; simp only [Result.andThen_ok]) | rw [if_pos (by omega)]); (try with_reducible rfl); done)); try simp only [Act.put, List.setIfInBounds_toArray, List.set_cons_zero, List.set_cons_succ])
                  (refine tk2 (v := ?_) (by kernel_rfl) (by kernel_rfl) (by kernel_rfl) (fun _ _ _ h => h) (Or.inl ⟨by rfl, ?_⟩) (by assumption) ?_; rotate_left; (focus (intro w hSw; (try dsimp only at hSw); go_simp; (try first | (rw [dif_pos (by omega)]; simp only [Result.andThen_ok]) | rw [if_pos (by omega)]); (try with_reducible rfl); done)); try simp only [Act.put, List.setIfInBounds_toArray, List.set_cons_zero, List.set_cons_succ])
                  (refine tk3 (v := ?_) (by kernel_rfl) (by kernel_rfl) (by kernel_rfl) (fun _ _ _ h => h) (Or.inl ⟨by rfl, ?_⟩) (by assumption) ?_; rotate_left; (focus (intro w hSw; (try dsimp only at hSw); go_simp; (try first | (rw [dif_pos (by omega)]; simp only [Result.andThen_ok]) | rw [if_pos (by omega)]); (try with_reducible rfl); done)); try simp only [Act.put, List.setIfInBounds_toArray, List.set_cons_zero, List.set_cons_succ])
                  (refine wpAnyH_ready (rs := [4]) (by kernel_rfl) (by simp) ?_; refine ar4 (fun K hK => ?_) AllReadyH.nil; go_simp)
                  refine (HW.out ()).mono ?_
                  rintro e w5 ⟨hf5, hm5⟩
                  rw [hv] at hm5
                  obtain rfl := hm5
                  exact ⟨rfl, CoC.no ((HSk.out.drew.bel).trans (hf5.toBelow.mono (by omega))) HN.out⟩
                | some y =>
                  obtain ⟨v, q⟩ := y
                  have hq := rdWr_form s p q v hv
                  have hkl : k < ms.length := by rw [HSk.out.len]; omega
                  go_wp2_with fail
                  (refine wp_region_held_drew (S := (fun W => W.cell? ⟨g, 1, none⟩ = some (.slice (some ⟨gr, 0, none⟩) n n))) (by kernel_rfl) c1 (fun hHeld => ?_); simp only [List.size_toArray, List.length_cons, List.length_nil, Nat.reduceAdd, Array.replicate_succ, Array.replicate_zero, List.push_toArray, List.append_toArray, List.nil_append, List.cons_append])
                  (refine tk0 (v := ?_) (by kernel_rfl) (by kernel_rfl) (by kernel_rfl) (fun _ _ _ h => h) (Or.inl ⟨by rfl, ?_⟩) (by assumption) ?_; rotate_left; (focus (intro w hSw; (try dsimp only at hSw); go_simp; (try first | (rw [dif_pos (by omega)]; simp only [Result.andThen_ok]) | rw [if_pos (by omega)]); (try with_reducible rfl); done)); try simp only [Act.put, List.setIfInBounds_toArray, List.set_cons_zero, List.set_cons_succ])
                  (refine tk1 (v := ?_) (by kernel_rfl) (by kernel_rfl) (by kernel_rfl) (fun _ _ _ h => h) (Or.inl ⟨by rfl, ?_⟩) (by assumption) ?_; rotate_left; (focus (intro w hSw; (try dsimp only at hSw); go_simp; (try first | (rw [dif_pos (by omega)]; simp only [Result.andThen_ok]) | rw [if_pos (by omega)]); (try with_reducible rfl); done)); try simp only [Act.put, List.setIfInBounds_toArray, List.set_cons_zero, List.set_cons_succ])
                  (refine tk2 (v := ?_) (by kernel_rfl) (by kernel_rfl) (by kernel_rfl) (fun _ _ _ h => h) (Or.inl ⟨by rfl, ?_⟩) (by assumption) ?_; rotate_left; (focus (intro w hSw; (try dsimp only at hSw); go_simp; (try first | (rw [dif_pos (by omega)]; simp only [Result.andThen_ok]) | rw [if_pos (by omega)]); (try with_reducible rfl); done)); try simp only [Act.put, List.setIfInBounds_toArray, List.set_cons_zero, List.set_cons_succ])
                  (refine tk3 (v := ?_) (by kernel_rfl) (by kernel_rfl) (by kernel_rfl) (fun _ _ _ h => h) (Or.inl ⟨by rfl, ?_⟩) (by assumption) ?_; rotate_left; (focus (intro w hSw; (try dsimp only at hSw); go_simp; (try first | (rw [dif_pos (by omega)]; simp only [Result.andThen_ok]) | rw [if_pos (by omega)]); (try with_reducible rfl); done)); try simp only [Act.put, List.setIfInBounds_toArray, List.set_cons_zero, List.set_cons_succ])
                  (refine wpAnyH_ready (rs := [4]) (by kernel_rfl) (by simp) ?_; refine ar4 (fun K hK => ?_) AllReadyH.nil; go_simp)
                  refine (HW.out ()).mono ?_
                  rintro e w5 ⟨hf5, hm5⟩
                  rw [hv] at hm5
                  obtain ⟨rfl, hr5⟩ := hm5
                  have H5 := HSk.out.drew.read hf5 hr5
                  obtain ⟨gr', e', hb', u0, u1, u2, fz⟩ := H5.own.at k hkl
                  obtain rfl : gr = gr' := by simpa using e'
                  have f0 := fz (k * 3)
                  have f1 := fz (k * 3 + 1)
                  have f2 := fz (k * 3 + 2)
                  have c5 := H5.hg.c1
                  have H6 := H5.put k (by omega) v
                  have HS5 : Hid _ := H5
                  have HS6 : Hid _ := H6
                  have c6 := H6.hg.c1
                  clear hf5 hr5 e' hb' fz H5 H6
                  go_wp2_with fail
                  (refine hK.out _ _ c5 (fun hHeld => ?_); clear hK K; try simp only [Act.put, List.setIfInBounds_toArray, List.set_cons_zero, List.set_cons_succ])
                  (refine tk5 (v := ?_) (by kernel_rfl) (by kernel_rfl) (by kernel_rfl) (fun _ _ _ h => h) (Or.inl ⟨by rfl, ?_⟩) (by assumption) ?_; rotate_left; (focus (intro w hSw; (try dsimp only at hSw); go_simp; (try first | (rw [dif_pos (by omega)]; simp only [Result.andThen_ok]) | rw [if_pos (by omega)]); (try with_reducible rfl); done)); try simp only [Act.put, List.setIfInBounds_toArray, List.set_cons_zero, List.set_cons_succ])
                  (refine wpAnyH_ready (rs := [6]) (by kernel_rfl) (by simp) ?_; refine ar6 (fun K hK => ?_) AllReadyH.nil; go_simp)
                  (refine hK.out _ _ c6 (fun hHeld => ?_); clear hK K; try simp only [Act.put, List.setIfInBounds_toArray, List.set_cons_zero, List.set_cons_succ])
                  refine wpAnyH_done (by kernel_rfl) ?_ _
                  have HQ2 : Hid (q ≤ s.size) := hq.2.2
                  have HRs2 : Hid (restW s [] n (p1 + m) = restW s ((ms.set k v).take (k + 1)) (n - (k + 1)) q) := by
                    show _ = _
                    rw [HRs.out, show n - k = n - (k + 1) + 1 from by omega, restW_yes hv]
                    congr 1
                    rw [List.take_add_one, List.getElem?_set_self hkl]
                    simp [List.take_set_of_le]
                  clear hq c5 c6 u0 u1 u2 f0 f1 f2 c1
                  go_wp2
                  go_roundw
                  case rel => exact ⟨k + 1, q, ms.set k v, by omega, by go_num, HQ2.out, HS6.out, HRs2.out⟩
                  case measure => simp [intOf]; omega
              · have hkn : k = n := by omega
                have HM : Hid (rdCo s = if p = s.size ∧ mayC (st : Nat) ms = true then some (((st : Nat) : Int), ms) else none) := by
                  show _ = _
                  have h1 := HRs.out
                  rw [hkn, Nat.sub_self, restW_zero, List.take_of_length_le (by rw [HSk.out.len]; exact Nat.le_refl _)] at h1
                  unfold restW at h1
                  rw [HD.out]
                  cases hx : rdWs s n (p1 + m) with
                  | none => rw [hx] at h1; cases h1
                  | some y =>
                    obtain ⟨l, r⟩ := y
                    rw [hx] at h1
                    simp only [List.nil_append, Option.some.injEq, Prod.mk.injEq] at h1
                    obtain ⟨rfl, rfl⟩ := h1
                    rfl
                clear HRs HD hkn
                have hL := leftC (w.heap.size + 1) s p wr HSk.out.rd hs
                by_cases hp : p < s.size
                · rw [decide_eq_true hp] at hL
                  have HL : Hid (∀ _ : Unit, _) := fun _ => hL
                  have HN : Hid (rdCo s = none) := HM.out.trans (if_neg (by omega))
                  clear hL HM
                  go_wp2_with fail
                  refine (HL.out ()).mono ?_
                  rintro e w5 ⟨rfl, nq, rfl⟩
                  go_wp2
                  exact ⟨rfl, CoC.no (HSk.out.bel.trans (below_drewN nq)) HN.out⟩
                · rw [decide_eq_false hp] at hL
                  have HL : Hid (∀ _ : Unit, _) := fun _ => hL
                  have hpe : p = s.size := by omega
                  clear hL
                  go_wp2_with fail
                  refine (HL.out ()).mono ?_
                  rintro e w5 ⟨rfl, nq, rfl⟩
                  have hS5 := HSk.out.drewN nq
                  generalize wr.drewN nq = w5 at *
                  have HS5 : Hid (CoS w (w.heap.size + 1) g gr n s (st : Nat) w5 p ms) := hS5
                  have hlen := hS5.len
                  have hsee : SeesW w5 w5.heap.size (.slice (some ⟨gr, 0, none⟩) n n) ms := by
                    have := hS5.own.sees (us := ms) hS5.len (by rw [List.take_length]) (by omega) (by omega)
                    rw [hS5.len] at this
                    exact this
                  have hm := mayBe_any (st : Nat) (.slice (some ⟨gr, 0, none⟩) n n) ms w5.heap.size w5 (Nat.le_refl _) hsee
                  have q0 := hS5.hg.c0
                  have q1 := hS5.hg.c1
                  clear hS5 hsee HSk HL
                  by_cases hmm : mayC (st : Nat) ms = true
                  · rw [hmm] at hm
                    have HMb : Hid (∀ _ : Unit, _) := fun _ => hm
                    have HY : Hid (rdCo s = some (((st : Nat) : Int), ms)) := HM.out.trans (if_pos ⟨hpe, hmm⟩)
                    clear hm hmm HM hlen
                    go_wp2_with fail
                    refine (HMb.out ()).mono ?_
                    rintro e w6 ⟨rfl, hb6⟩
                    have hG6 := HS5.out.hg.later hb6
                    have hZ6 := HS5.out.z.later hb6
                    have HO6 : Hid (ownW w6 (w.heap.size + 1) (.slice (some ⟨gr, 0, none⟩) n n) ms) := HS5.out.own.one (hb6.block gr HS5.out.own.blk.1)
                    have HB6 : Hid (Below w.heap.size w w6) := HS5.out.bel.trans (hb6.mono HS5.out.bel.size)
                    have v0 := hG6.c0
                    have v1 := hG6.c1
                    have z0 := hZ6.c0
                    have z1 := hZ6.c1
                    have y0 := hZ6.free 0
                    have y1 := hZ6.free 1
                    have HZ6 : Hid (Wc2 w6 w.heap.size (.int .u64 0) (.slice none 0 0)) := hZ6
                    have Hr3 : Hid (w.heap.size < gr) := HS5.out.r3
                    clear hb6 hG6 hZ6 q0 q1
                    go_wp2
                    refine bodyPost_ret (ret_commitD rfl _ _ _ _ w.heap.size (by rfl) (HZ6.out.set _ _)) rfl ⟨?_, ?_⟩
                    · exact (HB6.out.setCell (p := ⟨w.heap.size, 0, none⟩) (Nat.le_refl _) _).setCell (p := ⟨w.heap.size, 1, none⟩) (Nat.le_refl _) _
                    · rw [HY.out]
                      refine ⟨_, rfl, ?_, gr, by rw [HS5.out.len]⟩
                      have hne : gr ≠ w.heap.size := by have := Hr3.out; omega
                      have h1 := HO6.out.one (W' := (w6.setCell ⟨w.heap.size, 0, none⟩ (.int .u64 (st : Nat))).setCell ⟨w.heap.size, 1, none⟩ (.slice (some ⟨gr, 0, none⟩) n n)) ((Below.heap_setCell _ _ _ gr hne).trans (Below.heap_setCell _ _ _ gr hne))
                      refine ⟨h1.1, ?_⟩
                      rcases h1.2 with hx | ⟨g', c', cur', e1, e2, e3⟩
                      · exact .inl hx
                      · exact .inr ⟨g', c', cur', e1, by omega, e3⟩
                  · have hmf : mayC (st : Nat) ms = false := by simpa using hmm
                    rw [hmf] at hm
                    have HMb : Hid (∀ _ : Unit, _) := fun _ => hm
                    have HN : Hid (rdCo s = none) := HM.out.trans (if_neg (fun h => hmm h.2))
                    clear hm hmm hmf HM hlen
                    go_wp2_with fail
                    refine (HMb.out ()).mono ?_
                    rintro e w6 ⟨rfl, hb6⟩
                    have HB6 : Hid (Below w.heap.size w w6) := HS5.out.bel.trans (hb6.mono HS5.out.bel.size)
                    clear hb6
                    go_wp2
                    exact ⟨rfl, CoC.no HB6.out HN.out⟩
          · cases hn3
        · rw [if_neg (fun h => c3 h.2)] at HD
          have c3' : 128 < (ruV s p1).1 := by omega
          clear c2 hbn c3
          generalize (ruV s p1).1 = n at *
          generalize (ruV s p1).2.1 = m at *
          refine hT.mono ?_
          clear hT
          rintro e w3 ⟨hf3, ⟨n3, hn3, rfl, hr3⟩ | ⟨hn3, rfl⟩⟩
          · have HB4 : Hid (Below w.heap.size w w3) := HB3.out.trans (hf3.toBelow.mono (by omega))
            go_wp2
            exact ⟨rfl, CoC.no HB4.out HD.out⟩
          · cases hn3
      · rw [if_neg c2] at hT
        rw [if_neg (fun h => c2 h.1)] at HD
        refine hT.mono ?_
        clear hT
        rintro e w3 ⟨hf3, ⟨n3, hn3, rfl, hr3⟩ | ⟨hn3, rfl⟩⟩
        · cases hn3
        · exact ⟨rfl, CoC.no (HB3.out.trans (hf3.toBelow.mono (by omega))) HD.out⟩
    · cases hn2
  · rw [if_neg c1] at HD
    rw [if_neg c1] at hT
    refine hT.mono ?_
    clear hT
    rintro e w2 ⟨hf2, ⟨n2, hn2, rfl, hr2⟩ | ⟨hn2, rfl⟩⟩
    · cases hn2
    · exact ⟨rfl, CoC.no (HB.out.trans (hf2.toBelow.mono (by omega))) HD.out⟩
end Go.Proofs.Ytmolfemcciljjaa
