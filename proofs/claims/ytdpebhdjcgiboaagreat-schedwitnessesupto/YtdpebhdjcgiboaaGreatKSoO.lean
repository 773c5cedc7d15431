import Derived.Test.YtdpebhdjcgiboaaGreatKSoN
namespace Go.Proofs.YtdpebhdjcgiboaaGreat
set_option linter.unusedSimpArgs false
open Go.ChangeShapes Go.WideShapes Go.ChangeAt Go.RowKit Go.MuLone Go.RwLone
set_option linter.unusedVariables false
set_option maxRecDepth 100000
set_option maxHeartbeats 6400000
/-- The document's compare of two lists. -/
def rcL : List Int → List Int → Int
  | x :: xs, y :: ys => if x < y then -1 else if y < x then 1 else rcL xs ys
  | [], ys => - (ys.length : Int)
  | x :: xs, [] => ((x :: xs).length : Int)
theorem rcL_sign : ∀ xs ys, (rcL xs ys < 0 ↔ cmL xs ys < 0) ∧ (rcL xs ys = 0 ↔ cmL xs ys = 0)
  | [], [] => by simp [rcL, cmL]
  | [], y :: ys => by
    unfold rcL cmL
    rw [List.length_cons]
    omega
  | x :: xs, [] => by
    unfold rcL cmL
    rw [List.length_cons]
    omega
  | x :: xs, y :: ys => by
    unfold rcL cmL cmU
    have ih := rcL_sign xs ys
    by_cases h1 : x < y
    · rw [if_pos h1, if_pos h1, if_neg (by omega)]; omega
    · rw [if_neg h1, if_neg h1]
      by_cases h2 : y < x
      · rw [if_pos h2, if_pos h2, if_neg (by omega)]; omega
      · rw [if_neg h2, if_neg h2, if_pos rfl]; exact ih
theorem rcL_drop (xs ys : List Int) (t : Nat) (x y : Int) (hx : xs[t]? = some x) (hy : ys[t]? = some y) : rcL (xs.drop t) (ys.drop t) = if x < y then -1 else if y < x then 1 else rcL (xs.drop (t + 1)) (ys.drop (t + 1)) := by
  have h1 := (List.getElem?_eq_some_iff.1 hx)
  have h2 := (List.getElem?_eq_some_iff.1 hy)
  rw [List.drop_eq_getElem_cons h1.1, List.drop_eq_getElem_cons h2.1, h1.2, h2.2]
  rfl
theorem rcL_end (xs ys : List Int) (t : Nat) (h : ¬ (t < xs.length ∧ t < ys.length)) (ht : t ≤ xs.length) (ht2 : t ≤ ys.length) : rcL (xs.drop t) (ys.drop t) = (xs.length : Int) - (ys.length : Int) := by
  by_cases h1 : t < xs.length
  · have h2 : t = ys.length := by omega
    have e : ys.drop t = [] := List.drop_of_length_le (by omega)
    rw [e, List.drop_eq_getElem_cons h1]
    unfold rcL
    rw [List.length_cons, List.length_drop]
    omega
  · have e : xs.drop t = [] := List.drop_of_length_le (by omega)
    rw [e]
    unfold rcL
    rw [List.length_drop]
    omega
theorem rcompare_any (w : World) (C : Nat) (hC : C ≤ w.heap.size) (a b : Option Addr) (ac bc : Nat) (xs ys : List Int) (h1 : InG wdC w C (.slice a xs.length ac) xs) (h2 : InG wdC w C (.slice b ys.length bc) ys) (l1 : xs.length ≤ 140737488355328) (l2 : ys.length ≤ 140737488355328) :
    Calls Tryz.prog 94 #[.slice a xs.length ac, .slice b ys.length bc] w fun e w' => e = .returned (.int .i64 (rcL xs ys)) ∧ Keeps (fun _ => False) w w' := by
  have H : Hid (∀ W, Keeps (fun _ => False) w W → InG wdC W C (.slice a xs.length ac) xs ∧ InG wdC W C (.slice b ys.length bc) ys) := fun W k => ⟨h1.later (k.below hC (fun _ _ e => e)), h2.later (k.below hC (fun _ _ e => e))⟩
  obtain ⟨n, hn⟩ : ∃ n, xs.length = n := ⟨_, rfl⟩
  obtain ⟨m, hm⟩ : ∃ m, ys.length = m := ⟨_, rfl⟩
  obtain ⟨z, hz⟩ : ∃ z, rcL xs ys = z := ⟨_, rfl⟩
  have HN : Hid (xs.length = n ∧ ys.length = m ∧ rcL xs ys = z) := ⟨hn, hm, hz⟩
  rw [hn] at l1
  rw [hm] at l2
  rw [hn, hm] at H ⊢
  rw [hz]
  clear h1 h2 hn hm hz
  go_enter Tryz.func94, Tryz.ntmps94
  go_wp2_with fail
  go_loopw [5] (fun c wr => ∃ t : Nat, c = .int .i64 (t : Int) ∧ t ≤ n ∧ t ≤ m ∧ rcL (xs.drop t) (ys.drop t) = z ∧ Keeps (fun _ => False) w wr) (fun c _ => n - (intOf c).toNat)
  case atStart => exact ⟨0, rfl, by omega, by omega, HN.out.2.2, Keeps.refl _ _⟩
  case round =>
    rename World => wr
    obtain ⟨t, rfl, htn, htm, hr, hk⟩ := hrel
    have HK : Hid (rcL (xs.drop t) (ys.drop t) = z ∧ Keeps (fun _ => False) w wr) := ⟨hr, hk⟩
    have t0 : (0 : Int) ≤ (t : Int) := Int.natCast_nonneg _
    clear hr hk
    by_cases h5 : t < n ∧ t < m
    · have t1 : (t : Int) < (n : Int) := by omega
      have t2 : (t : Int) < (m : Int) := by omega
      have hx5 : t < xs.length := by rw [HN.out.1]; exact h5.1
      have hy5 : t < ys.length := by rw [HN.out.2.1]; exact h5.2
      obtain ⟨b1, o1, rfl, -, q1⟩ := (H.out wr HK.out.2).1.wd2 t hx5
      obtain ⟨b2, o2, rfl, -, q2⟩ := (H.out wr HK.out.2).2.wd2 t hy5
      obtain ⟨x, hx⟩ : ∃ x, xs[t] = x := ⟨_, rfl⟩
      obtain ⟨y, hy⟩ : ∃ y, ys[t] = y := ⟨_, rfl⟩
      rw [hx] at q1
      rw [hy] at q2
      have hst := rcL_drop xs ys t x y (by rw [List.getElem?_eq_getElem hx5, hx]) (by rw [List.getElem?_eq_getElem hy5, hy])
      rw [HK.out.1] at hst
      have HST : Hid (z = if x < y then -1 else if y < x then 1 else rcL (xs.drop (t + 1)) (ys.drop (t + 1))) := hst
      have HW : Hid (Keeps (fun _ => False) w wr.drew ∧ Keeps (fun _ => False) w wr.drew.drew) := ⟨HK.out.2.drew, HK.out.2.drew.drew⟩
      clear hx hy hx5 hy5 hst
      go_wp2_with fail
      (refine wp_region_held_drew (S := (fun W => W.cell? ⟨b1, o1 + t, none⟩ = some (.int .u64 x) ∧ W.cell? ⟨b2, o2 + t, none⟩ = some (.int .u64 y))) (by kernel_rfl) ⟨q1, q2⟩ (fun hHeld => ?_); simp only [List.size_toArray, List.length_cons, List.length_nil, Nat.reduceAdd, Array.replicate_succ, Array.replicate_zero, List.push_toArray, List.append_toArray, List.nil_append, List.cons_append])
      refine rgT 0 (h := ?_)
      refine rgT 1 (h := ?_)
      refine rgT 2 (h := ?_)
      refine rgT 3 (h := ?_)
      refine rgT 4 (h := ?_)
      refine rgT 5 (h := ?_)
      refine rgT 6 (h := ?_)
      refine rgT 7 (h := ?_)
      by_cases hlt : x < y
      · refine rgT 8 (h := ?_)
        refine wpAnyH_done (by kernel_rfl) ?_ _
        clear hHeld
        go_wp2
        go_ret
        refine ⟨?_, HW.out.1⟩
        rw [HST.out, if_pos (by omega)]
        rfl
      · refine rgT 8 (h := ?_)
        refine wpAnyH_done (by kernel_rfl) ?_ _
        clear hHeld
        go_wp2_with fail
        (refine wp_region_held_drew (S := (fun W => W.cell? ⟨b1, o1 + t, none⟩ = some (.int .u64 x) ∧ W.cell? ⟨b2, o2 + t, none⟩ = some (.int .u64 y))) (by kernel_rfl) ⟨q1, q2⟩ (fun hHeld => ?_); simp only [List.size_toArray, List.length_cons, List.length_nil, Nat.reduceAdd, Array.replicate_succ, Array.replicate_zero, List.push_toArray, List.append_toArray, List.nil_append, List.cons_append])
        refine rgT 0 (h := ?_)
        refine rgT 1 (h := ?_)
        refine rgT 2 (h := ?_)
        refine rgT 3 (h := ?_)
        refine rgT 4 (h := ?_)
        refine rgT 5 (h := ?_)
        refine rgT 6 (h := ?_)
        refine rgT 7 (h := ?_)
        by_cases hgt : y < x
        · have hgt2 : x > y := hgt
          refine rgT 8 (h := ?_)
          refine wpAnyH_done (by kernel_rfl) ?_ _
          clear hHeld
          go_wp2
          go_ret
          refine ⟨?_, HW.out.2⟩
          rw [HST.out, if_neg (by omega), if_pos (by omega)]
          rfl
        · have hgt2 : ¬ x > y := hgt
          refine rgT 8 (h := ?_)
          refine wpAnyH_done (by kernel_rfl) ?_ _
          clear hHeld q1 q2
          have hzz := HST.out
          rw [if_neg (by omega), if_neg (by omega)] at hzz
          have HZ : Hid (rcL (xs.drop (t + 1)) (ys.drop (t + 1)) = z) := hzz.symm
          clear hzz
          go_wp2
          go_roundw
          case rel => exact ⟨t + 1, by go_num, by omega, by omega, HZ.out, HW.out.2⟩
          case measure => simp [intOf]; omega
    · have he := rcL_end xs ys t (by rw [HN.out.1, HN.out.2.1]; exact h5) (by rw [HN.out.1]; exact htn) (by rw [HN.out.2.1]; exact htm)
      rw [HK.out.1, HN.out.1, HN.out.2.1] at he
      have HZ : Hid (z = (n : Int) - (m : Int)) := he
      clear he
      have hsub : IntKind.i64.wrap ((n : Int) - (m : Int)) = (n : Int) - (m : Int) := by rw [IntKind.wrap_i64]; omega
      by_cases h6 : t < n
      · have t1 : (t : Int) < (n : Int) := by omega
        have t2 : ¬ (t : Int) < (m : Int) := by omega
        go_wp2
        go_ret
        refine ⟨?_, HK.out.2⟩
        rw [HZ.out]
        rfl
      · have t1 : ¬ (t : Int) < (n : Int) := by omega
        go_wp2
        go_ret
        refine ⟨?_, HK.out.2⟩
        rw [HZ.out]
        rfl
end Go.Proofs.YtdpebhdjcgiboaaGreat

namespace Go.Proofs.YtdpebhdjcgiboaaGreat
open Go.ChangeShapes Go.WideShapes Go.ChangeAt Go.RowKit Go.MuLone Go.RwLone
set_option linter.unusedVariables false
set_option maxRecDepth 100000
set_option maxHeartbeats 6400000
/-- One outcome stored into a row of one's own. -/
theorem owU_set {w : World} {B g n c : Nat} {xs : List OuD} (h : OwG ouC 51 2 w B (.slice (some ⟨g, 0, none⟩) n c) xs) (j : Nat) (hj : j < xs.length) (x : OuD) :
    OwG ouC 51 2 ((w.setCell ⟨g, j * 2, none⟩ (.slice x.a1 x.X.length x.c1)).setCell ⟨g, j * 2 + 1, none⟩ (.slice x.a2 x.Y.length x.c2)) B (.slice (some ⟨g, 0, none⟩) n c) (xs.set j x) := by
  have hnx := (owG_cap h).1
  subst hnx
  have h1 := (World.ownsRow.stored h (j * 2) (.slice x.a1 x.X.length x.c1)).1
  have h2 := (World.ownsRow.stored h1 (j * 2 + 1) (.slice x.a2 x.Y.length x.c2)).1
  have e : (xs.set j x).flatMap ouC = ((xs.flatMap ouC).set (j * 2) (.slice x.a1 x.X.length x.c1)).set (j * 2 + 1) (.slice x.a2 x.Y.length x.c2) := by
    apply List.ext_getElem?
    intro k
    have hl : (xs.flatMap ouC).length = xs.length * 2 := flat_len ouC 2 (fun _ => rfl) xs
    have hl2 : ((xs.set j x).flatMap ouC).length = xs.length * 2 := by rw [flat_len ouC 2 (fun _ => rfl), List.length_set]
    rcases Nat.lt_or_ge k (xs.length * 2) with hk | hk
    · have hi : k / 2 < xs.length := by omega
      have hr : k % 2 < 2 := Nat.mod_lt _ (by decide)
      have ek : k = k / 2 * 2 + k % 2 := by omega
      have l1 : ((xs.set j x).flatMap ouC)[k]? = (ouC ((xs.set j x)[k / 2]'(by simpa using hi)))[k % 2]? := by
        conv => lhs; rw [ek]
        exact flat_get ouC 2 (fun _ => rfl) (xs.set j x) (k / 2) (by simpa using hi) (k % 2) hr
      have l2 : (xs.flatMap ouC)[k]? = (ouC xs[k / 2])[k % 2]? := by
        conv => lhs; rw [ek]
        exact flat_get ouC 2 (fun _ => rfl) xs (k / 2) hi (k % 2) hr
      rw [l1]
      simp only [List.getElem?_set, List.length_set, hl]
      by_cases ej : k / 2 = j
      · have hx : (xs.set j x)[k / 2]'(by simpa using hi) = x := by simp [ej]
        rw [hx]
        have : k % 2 = 0 ∨ k % 2 = 1 := by omega
        rcases this with r | r
        all_goals
          have hkk : k = j * 2 + k % 2 := by omega
          rw [r] at hkk ⊢
          subst hkk
          repeat' split
          all_goals first | rfl | omega
      · have hx : (xs.set j x)[k / 2]'(by simpa using hi) = xs[k / 2] := by simp [Ne.symm ej]
        rw [hx]
        repeat' split
        all_goals first | omega | exact l2.symm
    · rw [List.getElem?_eq_none (by omega), List.getElem?_eq_none (by simp only [List.length_set]; omega)]
  unfold OwG
  rw [e, List.length_set]
  exact h2
/-- The document's Compare of two outcomes. -/
def rcO (x1 x2 y1 y2 : List Int) : Int := if rcL x1 y1 = 0 then rcL x2 y2 else rcL x1 y1
theorem rcO_sign (x1 x2 y1 y2 : List Int) : (rcO x1 x2 y1 y2 < 0 ↔ cmO x1 x2 y1 y2 < 0) ∧ (rcO x1 x2 y1 y2 = 0 ↔ cmO x1 x2 y1 y2 = 0) := by
  have h1 := rcL_sign x1 y1
  have h2 := rcL_sign x2 y2
  unfold rcO cmO orI
  by_cases h : rcL x1 y1 = 0
  · rw [if_pos h, if_pos (h1.2.1 h)]; exact h2
  · rw [if_neg h, if_neg (fun e => h (h1.2.2 e))]; exact h1
theorem rCompare_any (w : World) (C : Nat) (hC : C ≤ w.heap.size) (a1 a2 b1 b2 : Option Addr) (c1 c2 d1 d2 : Nat) (x1 x2 y1 y2 : List Int) (h1 : InG wdC w C (.slice a1 x1.length c1) x1) (h2 : InG wdC w C (.slice a2 x2.length c2) x2) (h3 : InG wdC w C (.slice b1 y1.length d1) y1) (h4 : InG wdC w C (.slice b2 y2.length d2) y2) (l1 : x1.length ≤ 140737488355328) (l2 : x2.length ≤ 140737488355328) (l3 : y1.length ≤ 140737488355328) (l4 : y2.length ≤ 140737488355328) :
    Calls Tryz.prog 52 #[.agg #[.slice a1 x1.length c1, .slice a2 x2.length c2], .agg #[.slice b1 y1.length d1, .slice b2 y2.length d2]] w fun e w' => e = .returned (.int .i64 (rcO x1 x2 y1 y2)) ∧ Keeps (fun _ => False) w w' := by
  have HS : Hid (∀ X, Keeps (fun _ => False) w X → (Calls Tryz.prog 94 #[.slice a1 x1.length c1, .slice b1 y1.length d1] X fun e w' => e = .returned (.int .i64 (rcL x1 y1)) ∧ Keeps (fun _ => False) X w') ∧ Calls Tryz.prog 94 #[.slice a2 x2.length c2, .slice b2 y2.length d2] X fun e w' => e = .returned (.int .i64 (rcL x2 y2)) ∧ Keeps (fun _ => False) X w') := fun X k => by
    have kb := k.below hC (fun _ _ e => e)
    exact ⟨rcompare_any X C (Nat.le_trans hC k.size) a1 b1 c1 d1 x1 y1 (h1.later kb) (h3.later kb) l1 l3, rcompare_any X C (Nat.le_trans hC k.size) a2 b2 c2 d2 x2 y2 (h2.later kb) (h4.later kb) l2 l4⟩
  unfold rcO
  generalize rcL x1 y1 = p at *
  generalize rcL x2 y2 = q at *
  generalize x1.length = n1 at *
  generalize x2.length = n2 at *
  generalize y1.length = m1 at *
  generalize y2.length = m2 at *
  have k0 : Keeps (fun _ => False) w ((w.alloc (.cells #[.slice a1 n1 c1, .slice a2 n2 c2] 51)).alloc (.cells #[.slice b1 m1 d1, .slice b2 m2 d2] 51)) := ((Keeps.refl _ _).alloc _).alloc _
  have HC : Hid (∀ W, Keeps (fun _ => False) ((w.alloc (.cells #[.slice a1 n1 c1, .slice a2 n2 c2] 51)).alloc (.cells #[.slice b1 m1 d1, .slice b2 m2 d2] 51)) W → W.cell? ⟨w.heap.size, 1, none⟩ = some (.slice a2 n2 c2) ∧ W.cell? ⟨w.heap.size + 1, 1, none⟩ = some (.slice b2 m2 d2)) := fun W k => by
    have s : ((w.alloc (.cells #[.slice a1 n1 c1, .slice a2 n2 c2] 51)).alloc (.cells #[.slice b1 m1 d1, .slice b2 m2 d2] 51)).heap.size = w.heap.size + 2 := by rw [szAl, szAl]
    have e1 : W.heap[w.heap.size]? = some (.cells #[.slice a1 n1 c1, .slice a2 n2 c2] 51) := (k.block _ (by omega) (fun e => e)).trans ((Below.heap_alloc _ _ _ (by rw [szAl]; omega)).trans (heap_alloc_last _ _ _ rfl))
    have e2 : W.heap[w.heap.size + 1]? = some (.cells #[.slice b1 m1 d1, .slice b2 m2 d2] 51) := (k.block _ (by omega) (fun e => e)).trans (heap_alloc_last _ _ _ (szAl _ _).symm)
    exact ⟨(cell?_heap e1 1).trans rfl, (cell?_heap e2 1).trans rfl⟩
  have HK0 : Hid (Keeps (fun _ => False) w ((w.alloc (.cells #[.slice a1 n1 c1, .slice a2 n2 c2] 51)).alloc (.cells #[.slice b1 m1 d1, .slice b2 m2 d2] 51))) := k0
  obtain ⟨r, hr⟩ : ∃ r, (if p = 0 then q else p) = r := ⟨_, rfl⟩
  have HR : Hid ((if p = 0 then q else p) = r) := hr
  rw [hr]
  clear h1 h2 h3 h4 l1 l2 l3 l4 k0 hr
  go_enter Tryz.func52, Tryz.ntmps52
  go_wp2_with fail
  refine (HS.out _ HK0.out).1.mono ?_
  rintro e w2 ⟨rfl, k2⟩
  obtain ⟨q1, q2⟩ := HC.out w2 k2
  have HK2 : Hid (Keeps (fun _ => False) w w2) := HK0.out.trans k2
  clear k2
  by_cases hp : p = 0
  · subst hp
    have hqr : q = r := by rw [← HR.out, if_pos rfl]
    subst hqr
    clear HR
    go_wp2_with fail
    refine (HS.out w2 HK2.out).2.mono ?_
    rintro e w3 ⟨rfl, k3⟩
    have HK3 : Hid (Keeps (fun _ => False) w w3) := HK2.out.trans k3
    clear k3 q1 q2
    go_wp2
    go_ret
    exact ⟨rfl, HK3.out⟩
  · have hqr : p = r := by rw [← HR.out, if_neg hp]
    subst hqr
    clear HR
    go_wp2
    go_ret
    exact ⟨rfl, HK2.out⟩
end Go.Proofs.YtdpebhdjcgiboaaGreat

namespace Go.Proofs.YtdpebhdjcgiboaaGreat
open Go.ChangeShapes Go.WideShapes Go.ChangeAt Go.RowKit Go.MuLone Go.RwLone
set_option linter.unusedVariables false
set_option maxRecDepth 100000
set_option maxHeartbeats 6400000
/-- A state in which a program can end. -/
def EndS (cs : List Int) (tl : List (List I8)) (u : List Int) : Prop := (∃ ws, wrd (tsL (insL tl) tl.length) ws (encS (begA cs tl).2) u) ∧ allT (tsL (insL tl) tl.length) u tl.length = true
theorem ends_all {cs : List Int} {tl : List (List I8)} {B : Bd} (hB : BdIs B cs tl) {V : List (Vi (List Int))} (o : Vo (tsL B.ins B.n) (encS (begA cs tl).2) V V.length 0) {u : List Int} (hu : EndS cs tl u) : ∃ k v, k ∈ endsP (tsL B.ins B.n) V V.length ∧ V[k]? = some v ∧ v.1 = u := by
  rw [hB.i, hB.n] at o ⊢
  obtain ⟨⟨ws, hw⟩, hd⟩ := hu
  obtain ⟨v, hv, e⟩ := List.mem_map.1 (o.from0 _ hw)
  obtain ⟨k, hk⟩ := List.getElem?_of_mem hv
  refine ⟨k, v, ends_in.2 ⟨(List.getElem?_eq_some_iff.1 hk).1, v, hk, ?_⟩, hk, e⟩
  rw [e]; exact hd
theorem ends_is {cs : List Int} {tl : List (List I8)} {B : Bd} (hB : BdIs B cs tl) {V : List (Vi (List Int))} (o : Vo (tsL B.ins B.n) (encS (begA cs tl).2) V V.length 0) {k : Nat} (hk : k ∈ endsP (tsL B.ins B.n) V V.length) : ∃ v, V[k]? = some v ∧ EndS cs tl v.1 ∧ wrd (tsL (insL tl) tl.length) (pathP V V.length k) (encS (begA cs tl).2) v.1 := by
  rw [hB.i, hB.n] at o hk
  obtain ⟨hl, v, hv, hd⟩ := ends_in.1 hk
  have hw := path_wrd _ o V.length k v (by omega) hv
  exact ⟨v, hv, ⟨⟨_, hw⟩, hd⟩, hw⟩
theorem end_some {cs : List Int} {tl : List (List I8)} (hsd : soundP cs tl = true) (vs : List (Int × Int × Int)) : EndS cs tl (encS (endA cs tl vs).2) := by
  obtain ⟨hc4, hn4, _⟩ := sound_facts hsd
  obtain ⟨hc, hd, ws, hw⟩ := end_reach hsd vs
  refine ⟨⟨ws, hw⟩, ?_⟩
  unfold allT
  rw [List.all_eq_true]
  intro m hm
  show dnI (insL tl) (decS (encS (endA cs tl vs).2)) m = true
  rw [dec_enc hc hc4.2 hn4.2]
  unfold dnI
  exact decide_eq_true (hd m (List.mem_range.1 hm))
theorem wlL_len (wo : Nat → Int) (wd : Nat) : (wlL wo wd).length = wd := by simp [wlL]
/-- Is this the outcome of that end? -/
def OutOf (cs : List Int) (tl : List (List I8)) (u X Y : List Int) : Prop := X = wlL (decS u).wo cs.length ∧ Y = regsL (decS u).rg tl.length
theorem infoOu : (Tryz.prog.info? 51).map (fun i => (i.zero, i.size, i.bytes)) = some (some (.agg #[.slice none 0 0, .slice none 0 0]), 2, 48) := by kernel_rfl
/-- Where an outcome lies. -/
def obO (x : OuD) (b : Nat) : Prop := (Value.slice x.a1 x.X.length x.c1).ownBlock = some b ∨ (Value.slice x.a2 x.Y.length x.c2).ownBlock = some b
def DjO (a b : OuD) : Prop := ∀ x, obO a x → ¬ obO b x
def InO (x : OuD) : Prop := ∀ b, (Value.slice x.a1 x.X.length x.c1).ownBlock = some b → ¬ (Value.slice x.a2 x.Y.length x.c2).ownBlock = some b
/-- In the midst of telling all outcomes. -/
structure OL (w1 wr : World) (G : Nat → Prop) (B : Bd) (bb hb qb : Nat) (tv : Value) (kb mb : Nat) (vv ev : Value) (V : List (Vi (List Int))) (E : List Nat) (av : Value) (xs : List OuD) (t : Nat) : Prop where
  o : OwG ouC 51 2 wr w1.heap.size av xs
  l : xs.length = t
  x : ∀ x ∈ xs, OuW wr w1.heap.size x
  i : ∀ (j : Nat) (x : OuD), xs[j]? = some x → ∃ k v, E[j]? = some k ∧ V[k]? = some v ∧ x.X = wlL (decS v.1).wo B.wd ∧ x.Y = regsL (decS v.1).rg B.n
  b : ∃ a, Wb wr G B bb hb qb tv a kb mb vv ev V E
  k : Keeps G w1 wr
  q : xs.Pairwise DjO
  r : ∀ x ∈ xs, InO x
/-- What Outcomes answers. -/
structure Outs (w w' : World) (cs : List Int) (tl : List (List I8)) (v : Value) (ys : List OuD) : Prop where
  i : InG ouC w' w'.heap.size v ys
  o : ∀ y ∈ ys, OuW w' w.heap.size y
  k : Below w.heap.size w w'
  e : ∀ y ∈ ys, ∃ u, EndS cs tl u ∧ y.X = wlL (decS u).wo cs.length ∧ y.Y = regsL (decS u).rg tl.length
  a : ∀ u, EndS cs tl u → ∃ y ∈ ys, y.X = wlL (decS u).wo cs.length ∧ y.Y = regsL (decS u).rg tl.length
  l : ys.length ≤ 6103515625
  s : ys.Pairwise (fun a b => 0 ≤ cmO b.X b.Y a.X a.Y)
  d : ys.Pairwise (fun a b => ¬ (a.X = b.X ∧ a.Y = b.Y))
  r : OwG ouC 51 2 w' w.heap.size v ys
  q : ys.Pairwise DjO
  n : ∀ y ∈ ys, InO y
end Go.Proofs.YtdpebhdjcgiboaaGreat
