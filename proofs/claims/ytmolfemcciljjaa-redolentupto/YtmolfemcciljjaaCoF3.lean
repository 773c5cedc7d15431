import Derived.Test.YtmolfemcciljjaaCoF2
namespace Go.Proofs.Ytmolfemcciljjaa
open Go.ChangeShapes Go.WideShapes Go.ChangeAt Go.RowKit
set_option linter.unusedVariables false
set_option maxRecDepth 100000
theorem rdBl_end {s : ByteArray} {p : Nat} (h : ¬ p < s.size) : rdBl s p = none := by
  cases hx : rdBl s p with
  | none => rfl
  | some y => obtain ⟨c, q⟩ := y; have := rdBl_in hx; omega
/-- What is still to be told, at a loop's head of the document's. -/
def stillB (s : ByteArray) (cs : List (Int × List W3)) (k p : Nat) : Option (List (Int × List W3)) := if p < s.size then restB s cs k p else if cs.length = 0 then none else some cs
theorem stillB_start (s : ByteArray) : rdFr s = stillB s [] (s.size + 1) 0 := by
  unfold stillB
  split
  · exact (restB_nil _ _ _).symm
  · rename_i h
    rw [if_pos (show ([] : List (Int × List W3)).length = 0 from rfl), show rdFr s = restB s [] (s.size + 1) 0 from (restB_nil _ _ _).symm, restB_no (rdBl_end h)]
theorem stillB_no {s : ByteArray} {cs : List (Int × List W3)} {n p : Nat} (hp : p < s.size) (h : rdBl s p = none) : stillB s cs (n + 1) p = none := by
  unfold stillB; rw [if_pos hp, restB_no h]
theorem stillB_more {s : ByteArray} {cs : List (Int × List W3)} {n p q : Nat} {c : Int × List W3} (hp : p < s.size) (h : rdBl s p = some (c, q)) : stillB s cs (n + 1) p = stillB s (cs ++ [c]) n q := by
  unfold stillB
  rw [if_pos hp]
  by_cases hq : q < s.size
  · rw [if_pos hq, restB_more h hq]
  · rw [if_neg hq, if_neg (by simp), restB_last h hq]
/-- What stands in a round of the document's: the list, in the caller's own memory. -/
structure RfS (w : World) (W : World) (p : Nat) (v : Value) (xs : List (Int × Value)) (cs : List (Int × List W3)) : Prop where
  bel : Below w.heap.size w W
  own : ownC W w.heap.size v xs
  cin : CsIn W w.heap.size xs cs
  cnt : xs.length ≤ p
theorem RfS.step {w W W' : World} {p : Nat} {v : Value} {xs : List (Int × Value)} {cs : List (Int × List W3)} (h : RfS w W p v xs cs) (hb : Below W.heap.size W W') : RfS w W' p v xs cs := by
  have hk : ∀ k, k < W.heap.size → w.heap.size ≤ k → W'.heap[k]? = W.heap[k]? := fun k hk _ => hb.block k hk
  exact ⟨h.bel.trans (hb.mono h.bel.size), h.own.same hk, h.cin.keep (fun u us hu => hu.same hk), h.cnt⟩
theorem RfS.put {w W W' : World} {p q : Nat} {v v' : Value} {xs : List (Int × Value)} {cs : List (Int × List W3)} {st : Int} {u : Value} {us : List W3} (h : RfS w W p v xs cs) (hu : ownW W w.heap.size u us) (hpq : p < q)
    (hb : Below w.heap.size W W') (hk : ∀ y ys, ownW W w.heap.size y ys → ownW W' w.heap.size y ys) (ho : ownC W' w.heap.size v' (xs ++ [(st, u)])) : RfS w W' q v' (xs ++ [(st, u)]) (cs ++ [(st, us)]) :=
  ⟨h.bel.trans hb, ho, (h.cin.keep hk).snoc (hk _ _ hu), by have := h.cnt; simp; omega⟩
set_option maxHeartbeats 3200000 in
theorem refFrame (s : ByteArray) (w : World) (hs : s.size ≤ 1125899906842) : Calls Try.prog 10 #[.string s] w (FcC w (rdFr s)) := by
  go_enter Try.func10, Try.ntmps10
  go_wp2_with fail
  go_loopw [4, 5] (fun v a wr => ∃ (p k : Nat) (xs : List (Int × Value)) (cs : List (Int × List W3)), a = .int .i64 p ∧ p ≤ s.size ∧ s.size < k + p ∧ RfS w wr p v xs cs ∧ rdFr s = stillB s cs k p) (fun _ a _ => s.size - (intOf a).toNat)
  case atStart => exact ⟨0, s.size + 1, [], [], rfl, Nat.zero_le _, by omega, ⟨Below.refl _ _, ownC_nil _ _, CsIn.nil _ _, Nat.le_refl _⟩, stillB_start s⟩
  case round =>
    obtain ⟨p, k, xs, cs, rfl, hp, hk, hS, hrest⟩ := hrel
    obtain ⟨sp, cp, hv⟩ := hS.own.isSlice
    subst hv
    have HSp : Hid (RfS w wr p (.slice sp xs.length cp) xs cs) := hS
    have HRs : Hid (rdFr s = stillB s cs k p) := hrest
    clear hS hrest
    by_cases hlt : p < s.size
    · obtain ⟨n, rfl⟩ : ∃ n, k = n + 1 := ⟨k - 1, by omega⟩
      have hR := ref_blob_read s (p : Int) wr (by omega)
      by_cases hc : (rbV s p 1048576).2.2 = 0
      · have he : rB s (p : Int) = ((rbV s p 1048576).1, (p : Int) + (rbV s p 1048576).2.1, 0) := rd3_ok s p ByteArray.empty (tB s) hp hc
        rw [he] at hR
        have hform := rb_form s p 1048576 hc
        have hlen := (uvB_len (((rbV s p 1048576).1.size : Nat) : Int)).2
        have HBl : Hid ((∀ c, rdCo (rbV s p 1048576).1 = some c → rdBl s p = some (c, p + (rbV s p 1048576).2.1)) ∧ (rdCo (rbV s p 1048576).1 = none → rdBl s p = none)) := ⟨fun c h => by unfold rdBl; rw [if_pos hc, h], fun h => by unfold rdBl; rw [if_pos hc, h]⟩
        have ht : (rbV s p 1048576).1.size ≤ 1048576 := hform.2.2.1
        have hq1 : p + (rbV s p 1048576).2.1 ≤ s.size := hform.2.2.2
        have hq2 : 1 ≤ (rbV s p 1048576).2.1 := by omega
        clear hform hlen hc he
        simp only [show ∀ m : Nat, (p : Int) + (m : Int) = ((p + m : Nat) : Int) from fun m => by omega] at hR
        generalize (rbV s p 1048576).1 = t at *
        generalize hqe : p + (rbV s p 1048576).2.1 = q at *
        have hpq : p < q := by omega
        clear hqe hq2
        have HR : Hid (∀ _ : Unit, _) := fun _ => hR
        have HC : Hid (∀ _ : Unit, _) := fun _ => refDecode t wr (by omega)
        clear hR
        cases hr : rdCo t with
        | none =>
          have HN : Hid (rdFr s = none) := HRs.out.trans (stillB_no hlt (HBl.out.2 hr))
          clear HBl HRs
          go_wp2_with fail
          refine (HR.out ()).mono ?_
          rintro e w5 ⟨rfl, rfl⟩
          go_wp2_with fail
          refine (HC.out ()).mono ?_
          rintro e w6 ⟨hb6, hm6⟩
          rw [hr] at hm6
          obtain rfl := hm6
          have HB6 : Hid (Below w.heap.size w (w6.alloc (.cells #[.int .u64 0, .slice none 0 0] 25))) := ((HSp.out.step hb6).step (alB _ _)).bel
          clear hb6
          go_wp2
          go_ret2
          exact FcC.no HB6.out HN.out
        | some y =>
          obtain ⟨st, us⟩ := y
          have HR8 : Hid (rdFr s = stillB s (cs ++ [(st, us)]) n q) := HRs.out.trans (stillB_more hlt (HBl.out.1 _ hr))
          have HLen : Hid ((xs.length + 1) * 32 ≤ 140737488355328) := by show _ ≤ _; have := HSp.out.cnt; omega
          clear HBl HRs
          go_wp2_with fail
          refine (HR.out ()).mono ?_
          rintro e w5 ⟨rfl, rfl⟩
          go_wp2_with fail
          refine (HC.out ()).mono ?_
          rintro e w6 ⟨hb6, hm6⟩
          rw [hr] at hm6
          obtain ⟨u, rfl, hu⟩ := hm6
          obtain ⟨su, nu, cu, rfl⟩ := hu.isSlice
          have H6 := HSp.out.step hb6
          have hal := alB w6 (.cells #[.int .u64 st, .slice su nu cu] 25)
          have H7 := H6.step hal
          have hu7 : ownW (w6.alloc (.cells #[.int .u64 st, .slice su nu cu] 25)) w.heap.size (.slice su nu cu) us := (hu.base HSp.out.bel.size).same (fun j hj _ => hal.block j hj)
          have HS7 : Hid _ := H7
          have HU7 : Hid (∀ _ : Unit, _) := fun _ => hu7
          have g0 : (w6.alloc (.cells #[.int .u64 st, .slice su nu cu] 25)).cell? ⟨w6.heap.size, 0, none⟩ = some (.int .u64 st) := by simp [go_sem]
          have g1 : (w6.alloc (.cells #[.int .u64 st, .slice su nu cu] 25)).cell? ⟨w6.heap.size, 1, none⟩ = some (.slice su nu cu) := by simp [go_sem]
          clear hb6 hal H6 H7 hu hu7 HC HR
          go_wp2_with (at_builtin; refine app_commit (by rfl) _ _ (by rfl) w.heap.size _ xs (st, .slice su nu cu) HS7.out.own (by rfl) (w6.heap.size + 1) (by rw [sizeAl]) (by rfl) rfl HLen.out HS7.out.bel.size ?_; intro v' w' ho hb hk7; have HS8 : Hid _ := HS7.out.put (HU7.out ()) hpq hb hk7 ho; clear ho hb hk7)
          refine ⟨⟨q, n, _, _, rfl, hq1, by omega, HS8.out, HR8.out⟩, ?_⟩
          simp [intOf]; omega
      · have he : rB s (p : Int) = (ByteArray.empty, (p : Int), (rbV s p 1048576).2.2) := rd3_err s p ByteArray.empty (tB s) hp hc
        rw [he] at hR
        simp only at hR
        have hcc : ((rbV s p 1048576).2.2 != 0) = true := by simpa using hc
        have HN : Hid (rdFr s = none) := HRs.out.trans (stillB_no hlt (by unfold rdBl; rw [if_neg hc]))
        clear he hc HRs
        generalize (rbV s p 1048576).2.2 = c at *
        have HR : Hid (∀ _ : Unit, _) := fun _ => hR
        clear hR
        go_wp2_with fail
        refine (HR.out ()).mono ?_
        rintro e w5 ⟨rfl, rfl⟩
        go_wp2
        go_ret2
        exact FcC.no HSp.out.bel HN.out
    · have HN : Hid (rdFr s = if cs.length = 0 then none else some cs) := by
        show _ = _
        rw [HRs.out]; unfold stillB; rw [if_neg hlt]
      have hcl := HSp.out.cin.1
      clear HRs
      by_cases hn : xs.length = 0
      · have HN2 : Hid (rdFr s = none) := HN.out.trans (if_pos (by omega))
        have hd : ((xs.length : Int) == 0) = true := by rw [hn]; rfl
        clear HN hcl
        go_wp2
        go_ret2
        exact FcC.no HSp.out.bel HN2.out
      · have HN2 : Hid (rdFr s = some cs) := HN.out.trans (if_neg (by omega))
        have hd : ((xs.length : Int) == 0) = false := by rw [beq_eq_false_iff_ne]; omega
        clear HN hcl
        go_wp2
        go_ret2
        exact FcC.yes HSp.out.bel HN2.out HSp.out.own HSp.out.cin
end Go.Proofs.Ytmolfemcciljjaa
