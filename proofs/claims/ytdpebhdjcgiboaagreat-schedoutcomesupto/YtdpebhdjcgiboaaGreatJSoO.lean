import Derived.Test.YtdpebhdjcgiboaaGreatJSoN
namespace Go.Proofs.YtdpebhdjcgiboaaGreat
set_option linter.unusedSimpArgs false
open Go.ChangeShapes Go.WideShapes Go.ChangeAt Go.RowKit Go.MuLone Go.RwLone
set_option linter.unusedVariables false
set_option maxRecDepth 100000
set_option maxHeartbeats 6400000
/-- The document's compare of two lists. -/
def rcL : List Int → List Int → Int
  | x :: xs, y :: ys => if x < y then -1 else if y < x then 1 else rcL xs ys
  | [], ys => - (ys.length : Int)
  | x :: xs, [] => ((x :: xs).length : Int)
theorem rcL_sign : ∀ xs ys, (rcL xs ys < 0 ↔ cmL xs ys < 0) ∧ (rcL xs ys = 0 ↔ cmL xs ys = 0)
  | [], [] => by simp [rcL, cmL]
  | [], y :: ys => by
    unfold rcL cmL
    rw [List.length_cons]
    omega
  | x :: xs, [] => by
    unfold rcL cmL
    rw [List.length_cons]
    omega
  | x :: xs, y :: ys => by
    unfold rcL cmL cmU
    have ih := rcL_sign xs ys
    by_cases h1 : x < y
    · rw [if_pos h1, if_pos h1, if_neg (by omega)]; omega
    · rw [if_neg h1, if_neg h1]
      by_cases h2 : y < x
      · rw [if_pos h2, if_pos h2, if_neg (by omega)]; omega
      · rw [if_neg h2, if_neg h2, if_pos rfl]; exact ih
theorem rcL_drop (xs ys : List Int) (t : Nat) (x y : Int) (hx : xs[t]? = some x) (hy : ys[t]? = some y) : rcL (xs.drop t) (ys.drop t) = if x < y then -1 else if y < x then 1 else rcL (xs.drop (t + 1)) (ys.drop (t + 1)) := by
  have h1 := (List.getElem?_eq_some_iff.1 hx)
  have h2 := (List.getElem?_eq_some_iff.1 hy)
  rw [List.drop_eq_getElem_cons h1.1, List.drop_eq_getElem_cons h2.1, h1.2, h2.2]
  rfl
theorem rcL_end (xs ys : List Int) (t : Nat) (h : ¬ (t < xs.length ∧ t < ys.length)) (ht : t ≤ xs.length) (ht2 : t ≤ ys.length) : rcL (xs.drop t) (ys.drop t) = (xs.length : Int) - (ys.length : Int) := by
  by_cases h1 : t < xs.length
  · have h2 : t = ys.length := by omega
    have e : ys.drop t = [] := List.drop_of_length_le (by omega)
    rw [e, List.drop_eq_getElem_cons h1]
    unfold rcL
    rw [List.length_cons, List.length_drop]
    omega
  · have e : xs.drop t = [] := List.drop_of_length_le (by omega)
    rw [e]
    unfold rcL
    rw [List.length_drop]
    omega
theorem rcompare_any (w : World) (C : Nat) (hC : C ≤ w.heap.size) (a b : Option Addr) (ac bc : Nat) (xs ys : List Int) (h1 : InG wdC w C (.slice a xs.length ac) xs) (h2 : InG wdC w C (.slice b ys.length bc) ys) (l1 : xs.length ≤ 140737488355328) (l2 : ys.length ≤ 140737488355328) :
    Calls Tryz.prog 94 #[.slice a xs.length ac, .slice b ys.length bc] w fun e w' => e = .returned (.int .i64 (rcL xs ys)) ∧ Keeps (fun _ => False) w w' := by
  have H : Hid (∀ W, Keeps (fun _ => False) w W → InG wdC W C (.slice a xs.length ac) xs ∧ InG wdC W C (.slice b ys.length bc) ys) := fun W k => ⟨h1.later (k.below hC (fun _ _ e => e)), h2.later (k.below hC (fun _ _ e => e))⟩
  obtain ⟨n, hn⟩ : ∃ n, xs.length = n := ⟨_, rfl⟩
  obtain ⟨m, hm⟩ : ∃ m, ys.length = m := ⟨_, rfl⟩
  obtain ⟨z, hz⟩ : ∃ z, rcL xs ys = z := ⟨_, rfl⟩
  have HN : Hid (xs.length = n ∧ ys.length = m ∧ rcL xs ys = z) := ⟨hn, hm, hz⟩
  rw [hn] at l1
  rw [hm] at l2
  rw [hn, hm] at H ⊢
  rw [hz]
  clear h1 h2 hn hm hz
  go_enter Tryz.func94, Tryz.ntmps94
  go_wp2_with fail
  go_loopw [5] (fun c wr => ∃ t : Nat, c = .int .i64 (t : Int) ∧ t ≤ n ∧ t ≤ m ∧ rcL (xs.drop t) (ys.drop t) = z ∧ Keeps (fun _ => False) w wr) (fun c _ => n - (intOf c).toNat)
  case atStart => exact ⟨0, rfl, by omega, by omega, HN.out.2.2, Keeps.refl _ _⟩
  case round =>
    rename World => wr
    obtain ⟨t, rfl, htn, htm, hr, hk⟩ := hrel
    have HK : Hid (rcL (xs.drop t) (ys.drop t) = z ∧ Keeps (fun _ => False) w wr) := ⟨hr, hk⟩
    have t0 : (0 : Int) ≤ (t : Int) := Int.natCast_nonneg _
    clear hr hk
    by_cases h5 : t < n ∧ t < m
    · have t1 : (t : Int) < (n : Int) := by omega
      have t2 : (t : Int) < (m : Int) := by omega
      have hx5 : t < xs.length := by rw [HN.out.1]; exact h5.1
      have hy5 : t < ys.length := by rw [HN.out.2.1]; exact h5.2
      obtain ⟨b1, o1, rfl, -, q1⟩ := (H.out wr HK.out.2).1.wd2 t hx5
      obtain ⟨b2, o2, rfl, -, q2⟩ := (H.out wr HK.out.2).2.wd2 t hy5
      obtain ⟨x, hx⟩ : ∃ x, xs[t] = x := ⟨_, rfl⟩
      obtain ⟨y, hy⟩ : ∃ y, ys[t] = y := ⟨_, rfl⟩
      rw [hx] at q1
      rw [hy] at q2
      have hst := rcL_drop xs ys t x y (by rw [List.getElem?_eq_getElem hx5, hx]) (by rw [List.getElem?_eq_getElem hy5, hy])
      rw [HK.out.1] at hst
      have HST : Hid (z = if x < y then -1 else if y < x then 1 else rcL (xs.drop (t + 1)) (ys.drop (t + 1))) := hst
      have HW : Hid (Keeps (fun _ => False) w wr.drew ∧ Keeps (fun _ => False) w wr.drew.drew) := ⟨HK.out.2.drew, HK.out.2.drew.drew⟩
      clear hx hy hx5 hy5 hst
      go_wp2_with fail
      (refine wp_region_held_drew (S := (fun W => W.cell? ⟨b1, o1 + t, none⟩ = some (.int .u64 x) ∧ W.cell? ⟨b2, o2 + t, none⟩ = some (.int .u64 y))) (by kernel_rfl) ⟨q1, q2⟩ (fun hHeld => ?_); simp only [List.size_toArray, List.length_cons, List.length_nil, Nat.reduceAdd, Array.replicate_succ, Array.replicate_zero, List.push_toArray, List.append_toArray, List.nil_append, List.cons_append])
      refine rgT 0 (h := ?_)
      refine rgT 1 (h := ?_)
      refine rgT 2 (h := ?_)
      refine rgT 3 (h := ?_)
      refine rgT 4 (h := ?_)
      refine rgT 5 (h := ?_)
      refine rgT 6 (h := ?_)
      refine rgT 7 (h := ?_)
      by_cases hlt : x < y
      · refine rgT 8 (h := ?_)
        refine wpAnyH_done (by kernel_rfl) ?_ _
        clear hHeld
        go_wp2
        go_ret
        refine ⟨?_, HW.out.1⟩
        rw [HST.out, if_pos (by omega)]
        rfl
      · refine rgT 8 (h := ?_)
        refine wpAnyH_done (by kernel_rfl) ?_ _
        clear hHeld
        go_wp2_with fail
        (refine wp_region_held_drew (S := (fun W => W.cell? ⟨b1, o1 + t, none⟩ = some (.int .u64 x) ∧ W.cell? ⟨b2, o2 + t, none⟩ = some (.int .u64 y))) (by kernel_rfl) ⟨q1, q2⟩ (fun hHeld => ?_); simp only [List.size_toArray, List.length_cons, List.length_nil, Nat.reduceAdd, Array.replicate_succ, Array.replicate_zero, List.push_toArray, List.append_toArray, List.nil_append, List.cons_append])
        refine rgT 0 (h := ?_)
        refine rgT 1 (h := ?_)
        refine rgT 2 (h := ?_)
        refine rgT 3 (h := ?_)
        refine rgT 4 (h := ?_)
        refine rgT 5 (h := ?_)
        refine rgT 6 (h := ?_)
        refine rgT 7 (h := ?_)
        by_cases hgt : y < x
        · have hgt2 : x > y := hgt
          refine rgT 8 (h := ?_)
          refine wpAnyH_done (by kernel_rfl) ?_ _
          clear hHeld
          go_wp2
          go_ret
          refine ⟨?_, HW.out.2⟩
          rw [HST.out, if_neg (by omega), if_pos (by omega)]
          rfl
        · have hgt2 : ¬ x > y := hgt
          refine rgT 8 (h := ?_)
          refine wpAnyH_done (by kernel_rfl) ?_ _
          clear hHeld q1 q2
          have hzz := HST.out
          rw [if_neg (by omega), if_neg (by omega)] at hzz
          have HZ : Hid (rcL (xs.drop (t + 1)) (ys.drop (t + 1)) = z) := hzz.symm
          clear hzz
          go_wp2
          go_roundw
          case rel => exact ⟨t + 1, by go_num, by omega, by omega, HZ.out, HW.out.2⟩
          case measure => simp [intOf]; omega
    · have he := rcL_end xs ys t (by rw [HN.out.1, HN.out.2.1]; exact h5) (by rw [HN.out.1]; exact htn) (by rw [HN.out.2.1]; exact htm)
      rw [HK.out.1, HN.out.1, HN.out.2.1] at he
      have HZ : Hid (z = (n : Int) - (m : Int)) := he
      clear he
      have hsub : IntKind.i64.wrap ((n : Int) - (m : Int)) = (n : Int) - (m : Int) := by rw [IntKind.wrap_i64]; omega
      by_cases h6 : t < n
      · have t1 : (t : Int) < (n : Int) := by omega
        have t2 : ¬ (t : Int) < (m : Int) := by omega
        go_wp2
        go_ret
        refine ⟨?_, HK.out.2⟩
        rw [HZ.out]
        rfl
      · have t1 : ¬ (t : Int) < (n : Int) := by omega
        go_wp2
        go_ret
        refine ⟨?_, HK.out.2⟩
        rw [HZ.out]
        rfl
end Go.Proofs.YtdpebhdjcgiboaaGreat

namespace Go.Proofs.YtdpebhdjcgiboaaGreat
open Go.ChangeShapes Go.WideShapes Go.ChangeAt Go.RowKit Go.MuLone Go.RwLone
set_option linter.unusedVariables false
set_option maxRecDepth 100000
set_option maxHeartbeats 6400000
/-- One outcome stored into a row of one's own. -/
theorem owU_set {w : World} {B g n c : Nat} {xs : List OuD} (h : OwG ouC 51 2 w B (.slice (some ⟨g, 0, none⟩) n c) xs) (j : Nat) (hj : j < xs.length) (x : OuD) :
    OwG ouC 51 2 ((w.setCell ⟨g, j * 2, none⟩ (.slice x.a1 x.X.length x.c1)).setCell ⟨g, j * 2 + 1, none⟩ (.slice x.a2 x.Y.length x.c2)) B (.slice (some ⟨g, 0, none⟩) n c) (xs.set j x) := by
  have hnx := (owG_cap h).1
  subst hnx
  have h1 := (World.ownsRow.stored h (j * 2) (.slice x.a1 x.X.length x.c1)).1
  have h2 := (World.ownsRow.stored h1 (j * 2 + 1) (.slice x.a2 x.Y.length x.c2)).1
  have e : (xs.set j x).flatMap ouC = ((xs.flatMap ouC).set (j * 2) (.slice x.a1 x.X.length x.c1)).set (j * 2 + 1) (.slice x.a2 x.Y.length x.c2) := by
    apply List.ext_getElem?
    intro k
    have hl : (xs.flatMap ouC).length = xs.length * 2 := flat_len ouC 2 (fun _ => rfl) xs
    have hl2 : ((xs.set j x).flatMap ouC).length = xs.length * 2 := by rw [flat_len ouC 2 (fun _ => rfl), List.length_set]
    rcases Nat.lt_or_ge k (xs.length * 2) with hk | hk
    · have hi : k / 2 < xs.length := by omega
      have hr : k % 2 < 2 := Nat.mod_lt _ (by decide)
      have ek : k = k / 2 * 2 + k % 2 := by omega
      have l1 : ((xs.set j x).flatMap ouC)[k]? = (ouC ((xs.set j x)[k / 2]'(by simpa using hi)))[k % 2]? := by
        conv => lhs; rw [ek]
        exact flat_get ouC 2 (fun _ => rfl) (xs.set j x) (k / 2) (by simpa using hi) (k % 2) hr
      have l2 : (xs.flatMap ouC)[k]? = (ouC xs[k / 2])[k % 2]? := by
        conv => lhs; rw [ek]
        exact flat_get ouC 2 (fun _ => rfl) xs (k / 2) hi (k % 2) hr
      rw [l1]
      simp only [List.getElem?_set, List.length_set, hl]
      by_cases ej : k / 2 = j
      · have hx : (xs.set j x)[k / 2]'(by simpa using hi) = x := by simp [ej]
        rw [hx]
        have : k % 2 = 0 ∨ k % 2 = 1 := by omega
        rcases this with r | r
        all_goals
          have hkk : k = j * 2 + k % 2 := by omega
          rw [r] at hkk ⊢
          subst hkk
          repeat' split
          all_goals first | rfl | omega
      · have hx : (xs.set j x)[k / 2]'(by simpa using hi) = xs[k / 2] := by simp [Ne.symm ej]
        rw [hx]
        repeat' split
        all_goals first | omega | exact l2.symm
    · rw [List.getElem?_eq_none (by omega), List.getElem?_eq_none (by simp only [List.length_set]; omega)]
  unfold OwG
  rw [e, List.length_set]
  exact h2
/-- The document's Compare of two outcomes. -/
def rcO (x1 x2 y1 y2 : List Int) : Int := if rcL x1 y1 = 0 then rcL x2 y2 else rcL x1 y1
theorem rcO_sign (x1 x2 y1 y2 : List Int) : (rcO x1 x2 y1 y2 < 0 ↔ cmO x1 x2 y1 y2 < 0) ∧ (rcO x1 x2 y1 y2 = 0 ↔ cmO x1 x2 y1 y2 = 0) := by
  have h1 := rcL_sign x1 y1
  have h2 := rcL_sign x2 y2
  unfold rcO cmO orI
  by_cases h : rcL x1 y1 = 0
  · rw [if_pos h, if_pos (h1.2.1 h)]; exact h2
  · rw [if_neg h, if_neg (fun e => h (h1.2.2 e))]; exact h1
theorem rCompare_any (w : World) (C : Nat) (hC : C ≤ w.heap.size) (a1 a2 b1 b2 : Option Addr) (c1 c2 d1 d2 : Nat) (x1 x2 y1 y2 : List Int) (h1 : InG wdC w C (.slice a1 x1.length c1) x1) (h2 : InG wdC w C (.slice a2 x2.length c2) x2) (h3 : InG wdC w C (.slice b1 y1.length d1) y1) (h4 : InG wdC w C (.slice b2 y2.length d2) y2) (l1 : x1.length ≤ 140737488355328) (l2 : x2.length ≤ 140737488355328) (l3 : y1.length ≤ 140737488355328) (l4 : y2.length ≤ 140737488355328) :
    Calls Tryz.prog 52 #[.agg #[.slice a1 x1.length c1, .slice a2 x2.length c2], .agg #[.slice b1 y1.length d1, .slice b2 y2.length d2]] w fun e w' => e = .returned (.int .i64 (rcO x1 x2 y1 y2)) ∧ Keeps (fun _ => False) w w' := by
  have HS : Hid (∀ X, Keeps (fun _ => False) w X → (Calls Tryz.prog 94 #[.slice a1 x1.length c1, .slice b1 y1.length d1] X fun e w' => e = .returned (.int .i64 (rcL x1 y1)) ∧ Keeps (fun _ => False) X w') ∧ Calls Tryz.prog 94 #[.slice a2 x2.length c2, .slice b2 y2.length d2] X fun e w' => e = .returned (.int .i64 (rcL x2 y2)) ∧ Keeps (fun _ => False) X w') := fun X k => by
    have kb := k.below hC (fun _ _ e => e)
    exact ⟨rcompare_any X C (Nat.le_trans hC k.size) a1 b1 c1 d1 x1 y1 (h1.later kb) (h3.later kb) l1 l3, rcompare_any X C (Nat.le_trans hC k.size) a2 b2 c2 d2 x2 y2 (h2.later kb) (h4.later kb) l2 l4⟩
  unfold rcO
  generalize rcL x1 y1 = p at *
  generalize rcL x2 y2 = q at *
  generalize x1.length = n1 at *
  generalize x2.length = n2 at *
  generalize y1.length = m1 at *
  generalize y2.length = m2 at *
  have k0 : Keeps (fun _ => False) w ((w.alloc (.cells #[.slice a1 n1 c1, .slice a2 n2 c2] 51)).alloc (.cells #[.slice b1 m1 d1, .slice b2 m2 d2] 51)) := ((Keeps.refl _ _).alloc _).alloc _
  have HC : Hid (∀ W, Keeps (fun _ => False) ((w.alloc (.cells #[.slice a1 n1 c1, .slice a2 n2 c2] 51)).alloc (.cells #[.slice b1 m1 d1, .slice b2 m2 d2] 51)) W → W.cell? ⟨w.heap.size, 1, none⟩ = some (.slice a2 n2 c2) ∧ W.cell? ⟨w.heap.size + 1, 1, none⟩ = some (.slice b2 m2 d2)) := fun W k => by
    have s : ((w.alloc (.cells #[.slice a1 n1 c1, .slice a2 n2 c2] 51)).alloc (.cells #[.slice b1 m1 d1, .slice b2 m2 d2] 51)).heap.size = w.heap.size + 2 := by rw [szAl, szAl]
    have e1 : W.heap[w.heap.size]? = some (.cells #[.slice a1 n1 c1, .slice a2 n2 c2] 51) := (k.block _ (by omega) (fun e => e)).trans ((Below.heap_alloc _ _ _ (by rw [szAl]; omega)).trans (heap_alloc_last _ _ _ rfl))
    have e2 : W.heap[w.heap.size + 1]? = some (.cells #[.slice b1 m1 d1, .slice b2 m2 d2] 51) := (k.block _ (by omega) (fun e => e)).trans (heap_alloc_last _ _ _ (szAl _ _).symm)
    exact ⟨(cell?_heap e1 1).trans rfl, (cell?_heap e2 1).trans rfl⟩
  have HK0 : Hid (Keeps (fun _ => False) w ((w.alloc (.cells #[.slice a1 n1 c1, .slice a2 n2 c2] 51)).alloc (.cells #[.slice b1 m1 d1, .slice b2 m2 d2] 51))) := k0
  obtain ⟨r, hr⟩ : ∃ r, (if p = 0 then q else p) = r := ⟨_, rfl⟩
  have HR : Hid ((if p = 0 then q else p) = r) := hr
  rw [hr]
  clear h1 h2 h3 h4 l1 l2 l3 l4 k0 hr
  go_enter Tryz.func52, Tryz.ntmps52
  go_wp2_with fail
  refine (HS.out _ HK0.out).1.mono ?_
  rintro e w2 ⟨rfl, k2⟩
  obtain ⟨q1, q2⟩ := HC.out w2 k2
  have HK2 : Hid (Keeps (fun _ => False) w w2) := HK0.out.trans k2
  clear k2
  by_cases hp : p = 0
  · subst hp
    have hqr : q = r := by rw [← HR.out, if_pos rfl]
    subst hqr
    clear HR
    go_wp2_with fail
    refine (HS.out w2 HK2.out).2.mono ?_
    rintro e w3 ⟨rfl, k3⟩
    have HK3 : Hid (Keeps (fun _ => False) w w3) := HK2.out.trans k3
    clear k3 q1 q2
    go_wp2
    go_ret
    exact ⟨rfl, HK3.out⟩
  · have hqr : p = r := by rw [← HR.out, if_neg hp]
    subst hqr
    clear HR
    go_wp2
    go_ret
    exact ⟨rfl, HK2.out⟩
end Go.Proofs.YtdpebhdjcgiboaaGreat

namespace Go.Proofs.YtdpebhdjcgiboaaGreat
open Go.ChangeShapes Go.WideShapes Go.ChangeAt Go.RowKit Go.MuLone Go.RwLone
set_option linter.unusedVariables false
set_option maxRecDepth 100000
set_option maxHeartbeats 6400000
/-- A state in which a program can end. -/
def EndS (cs : List Int) (tl : List (List I8)) (u : List Int) : Prop := (∃ ws, wrd (tsL (insL tl) tl.length) ws (encS (begA cs tl).2) u) ∧ allT (tsL (insL tl) tl.length) u tl.length = true
theorem ends_all {cs : List Int} {tl : List (List I8)} {B : Bd} (hB : BdIs B cs tl) {V : List (Vi (List Int))} (o : Vo (tsL B.ins B.n) (encS (begA cs tl).2) V V.length 0) {u : List Int} (hu : EndS cs tl u) : ∃ k v, k ∈ endsP (tsL B.ins B.n) V V.length ∧ V[k]? = some v ∧ v.1 = u := by
  rw [hB.i, hB.n] at o ⊢
  obtain ⟨⟨ws, hw⟩, hd⟩ := hu
  obtain ⟨v, hv, e⟩ := List.mem_map.1 (o.from0 _ hw)
  obtain ⟨k, hk⟩ := List.getElem?_of_mem hv
  refine ⟨k, v, ends_in.2 ⟨(List.getElem?_eq_some_iff.1 hk).1, v, hk, ?_⟩, hk, e⟩
  rw [e]; exact hd
theorem ends_is {cs : List Int} {tl : List (List I8)} {B : Bd} (hB : BdIs B cs tl) {V : List (Vi (List Int))} (o : Vo (tsL B.ins B.n) (encS (begA cs tl).2) V V.length 0) {k : Nat} (hk : k ∈ endsP (tsL B.ins B.n) V V.length) : ∃ v, V[k]? = some v ∧ EndS cs tl v.1 ∧ wrd (tsL (insL tl) tl.length) (pathP V V.length k) (encS (begA cs tl).2) v.1 := by
  rw [hB.i, hB.n] at o hk
  obtain ⟨hl, v, hv, hd⟩ := ends_in.1 hk
  have hw := path_wrd _ o V.length k v (by omega) hv
  exact ⟨v, hv, ⟨⟨_, hw⟩, hd⟩, hw⟩
theorem end_some {cs : List Int} {tl : List (List I8)} (hsd : soundP cs tl = true) (vs : List (Int × Int × Int)) : EndS cs tl (encS (endA cs tl vs).2) := by
  obtain ⟨hc4, hn4, _⟩ := sound_facts hsd
  obtain ⟨hc, hd, ws, hw⟩ := end_reach hsd vs
  refine ⟨⟨ws, hw⟩, ?_⟩
  unfold allT
  rw [List.all_eq_true]
  intro m hm
  show dnI (insL tl) (decS (encS (endA cs tl vs).2)) m = true
  rw [dec_enc hc hc4.2 hn4.2]
  unfold dnI
  exact decide_eq_true (hd m (List.mem_range.1 hm))
theorem OuW.down {w : World} {B C : Nat} {x : OuD} (h : OuW w B x) (hc : C ≤ B) : OuW w C x := ⟨h.o1.down hc, h.o2.down hc, h.l1, h.l2⟩
theorem wlL_len (wo : Nat → Int) (wd : Nat) : (wlL wo wd).length = wd := by simp [wlL]
/-- Is this the outcome of that end? -/
def OutOf (cs : List Int) (tl : List (List I8)) (u X Y : List Int) : Prop := X = wlL (decS u).wo cs.length ∧ Y = regsL (decS u).rg tl.length
/-- What a step leaves of places: none goes beyond its thread's end. -/
theorem stI_le {ins : Nat → List I8} {s : Ls} {m i : Nat} (h : s.pl i ≤ (ins i).length) : (stI ins s m).pl i ≤ (ins i).length := by
  by_cases hp : s.pl m < (ins m).length
  · unfold stI
    rw [tsP_in hp]
    dsimp only
    by_cases e : i = m
    · subst e
      rw [upd_same]
      exact Nat.min_le_right _ _
    · rw [upd_other _ _ e]; exact h
  · rw [stI_done hp]; exact h
theorem reach_is {ins : Nat → List I8} {wd n : Nat} (h1 : wd ≤ 4) (h2 : n ≤ 4) (hs : ∀ m, m < n → ∀ x ∈ ins m, snd wd x) : ∀ (ws : List Nat) (s : Ls) (u : List Int), Can wd n s → (∀ i, i < n → s.pl i ≤ (ins i).length) → wrd (tsL ins n) ws (encS s) u → ∃ s', u = encS s' ∧ Can wd n s' ∧ ∀ i, i < n → s'.pl i ≤ (ins i).length
  | [], s, u, hc, hp, hw => ⟨s, (show encS s = u from hw).symm, hc, hp⟩
  | m :: ws, s, u, hc, hp, hw => by
    obtain ⟨hm, _, hr⟩ := hw
    have hm : m < n := hm
    have hr : wrd (tsL ins n) ws (encS (stI ins (decS (encS s)) m)) u := hr
    rw [dec_enc hc h1 h2] at hr
    exact reach_is h1 h2 hs ws (stI ins s m) u (stI_can hc hm (hs m hm)) (fun i hi => stI_le (hp i hi)) hr
theorem regsL_get (rg : Nat → Nat → Int) (t i r : Nat) (hi : i < t) (hr : r < 4) : (regsL rg t)[i * 4 + r]? = some (rg i r) := by
  unfold regsL
  have := flat_get (fun i : Nat => [rg i 0, rg i 1, rg i 2, rg i 3]) 4 (fun _ => rfl) (List.range t) i (by simpa using hi) r hr
  rw [this, List.getElem_range]
  match r, hr with
  | 0, _ => rfl
  | 1, _ => rfl
  | 2, _ => rfl
  | 3, _ => rfl
theorem wlL_get (wo : Nat → Int) (wd i : Nat) (hi : i < wd) : (wlL wo wd)[i]? = some (wo i) := by
  unfold wlL
  rw [List.getElem?_map, List.getElem?_range hi]
  rfl
/-- Ends of one outcome are one. -/
theorem end_one {cs : List Int} {tl : List (List I8)} (hsd : soundP cs tl = true) {u v X Y : List Int} (hu : EndS cs tl u) (hv : EndS cs tl v) (h1 : OutOf cs tl u X Y) (h2 : OutOf cs tl v X Y) : u = v := by
  obtain ⟨hc4, hn4, _⟩ := sound_facts hsd
  have key : ∀ {z : List Int}, EndS cs tl z → ∃ s, z = encS s ∧ Can cs.length tl.length s ∧ ∀ i, i < tl.length → s.pl i = (insL tl i).length := fun hz => by
    obtain ⟨⟨ws, hw⟩, hd⟩ := hz
    obtain ⟨s, e, hc, hp⟩ := reach_is hc4.2 hn4.2 (sound_snd hsd) ws (begA cs tl).2 _ (beg_can cs tl) (fun i _ => Nat.zero_le _) hw
    refine ⟨s, e, hc, fun i hi => ?_⟩
    unfold allT at hd
    rw [List.all_eq_true] at hd
    have := hd i (List.mem_range.2 hi)
    rw [e] at this
    have h : dnI (insL tl) (decS (encS s)) i = true := this
    rw [dec_enc hc hc4.2 hn4.2] at h
    unfold dnI at h
    have := of_decide_eq_true h
    have := hp i hi
    omega
  obtain ⟨s, rfl, cs1, ps⟩ := key hu
  obtain ⟨t, rfl, ct1, pt⟩ := key hv
  unfold OutOf at h1 h2
  rw [dec_enc cs1 hc4.2 hn4.2] at h1
  rw [dec_enc ct1 hc4.2 hn4.2] at h2
  have ew := h1.1.symm.trans h2.1
  have er := h1.2.symm.trans h2.2
  have e : s = t := by
    obtain ⟨wo, rg, pl⟩ := s
    obtain ⟨wo', rg', pl'⟩ := t
    congr 1
    · funext i
      by_cases hi : i < cs.length
      · have a := wlL_get wo cs.length i hi
        have b := wlL_get wo' cs.length i hi
        rw [show wlL wo cs.length = wlL wo' cs.length from ew, b] at a
        injection a with a
        exact a.symm
      · rw [show wo i = 0 from cs1.w i (by omega), show wo' i = 0 from ct1.w i (by omega)]
    · funext i r
      by_cases hi : i < tl.length ∧ r < 4
      · have a := regsL_get rg tl.length i r hi.1 hi.2
        have b := regsL_get rg' tl.length i r hi.1 hi.2
        rw [show regsL rg tl.length = regsL rg' tl.length from er, b] at a
        injection a with a
        exact a.symm
      · rw [show rg i r = 0 from cs1.r i r (by omega), show rg' i r = 0 from ct1.r i r (by omega)]
    · funext i
      by_cases hi : i < tl.length
      · rw [show pl i = (insL tl i).length from ps i hi, show pl' i = (insL tl i).length from pt i hi]
      · rw [show pl i = 0 from cs1.p i (by omega), show pl' i = 0 from ct1.p i (by omega)]
  rw [e]
theorem endsP_nodup (T : Ts (List Int)) (V : List (Vi (List Int))) (i : Nat) : (endsP T V i).Nodup := (List.filter_sublist).nodup List.nodup_range
theorem infoOu : (Tryz.prog.info? 51).map (fun i => (i.zero, i.size, i.bytes)) = some (some (.agg #[.slice none 0 0, .slice none 0 0]), 2, 48) := by kernel_rfl
/-- Where an outcome lies. -/
def obO (x : OuD) (b : Nat) : Prop := (Value.slice x.a1 x.X.length x.c1).ownBlock = some b ∨ (Value.slice x.a2 x.Y.length x.c2).ownBlock = some b
def DjO (a b : OuD) : Prop := ∀ x, obO a x → ¬ obO b x
def InO (x : OuD) : Prop := ∀ b, (Value.slice x.a1 x.X.length x.c1).ownBlock = some b → ¬ (Value.slice x.a2 x.Y.length x.c2).ownBlock = some b
theorem DjO.symm {a b : OuD} (h : DjO a b) : DjO b a := fun x e e' => h x e' e
theorem OuW.ob {w : World} {B : Nat} {x : OuD} (h : OuW w B x) {b : Nat} (hb : obO x b) : B ≤ b ∧ b < w.heap.size := by
  rcases hb with e | e
  · exact World.ownsRow.lt h.o1 b e
  · exact World.ownsRow.lt h.o2 b e
/-- In the midst of telling all outcomes. -/
structure OL (w1 wr : World) (G : Nat → Prop) (B : Bd) (bb hb qb : Nat) (tv : Value) (kb mb : Nat) (vv ev : Value) (V : List (Vi (List Int))) (E : List Nat) (av : Value) (xs : List OuD) (t : Nat) : Prop where
  o : OwG ouC 51 2 wr w1.heap.size av xs
  l : xs.length = t
  x : ∀ x ∈ xs, OuW wr w1.heap.size x
  i : ∀ (j : Nat) (x : OuD), xs[j]? = some x → ∃ k v, E[j]? = some k ∧ V[k]? = some v ∧ x.X = wlL (decS v.1).wo B.wd ∧ x.Y = regsL (decS v.1).rg B.n
  b : ∃ a, Wb wr G B bb hb qb tv a kb mb vv ev V E
  k : Keeps G w1 wr
  q : xs.Pairwise DjO
  r : ∀ x ∈ xs, InO x
/-- What Outcomes answers. -/
structure Outs (w w' : World) (cs : List Int) (tl : List (List I8)) (v : Value) (ys : List OuD) : Prop where
  i : InG ouC w' w'.heap.size v ys
  o : ∀ y ∈ ys, OuW w' w.heap.size y
  k : Below w.heap.size w w'
  e : ∀ y ∈ ys, ∃ u, EndS cs tl u ∧ y.X = wlL (decS u).wo cs.length ∧ y.Y = regsL (decS u).rg tl.length
  a : ∀ u, EndS cs tl u → ∃ y ∈ ys, y.X = wlL (decS u).wo cs.length ∧ y.Y = regsL (decS u).rg tl.length
  l : ys.length ≤ 6103515625
  s : ys.Pairwise (fun a b => 0 ≤ cmO b.X b.Y a.X a.Y)
  d : ys.Pairwise (fun a b => ¬ (a.X = b.X ∧ a.Y = b.Y))
  r : OwG ouC 51 2 w' w.heap.size v ys
  q : ys.Pairwise DjO
  n : ∀ y ∈ ys, InO y
theorem outcomes_any (w : World) (C : Nat) (ca : Option Addr) (cc : Nat) (ta : Option Addr) (tc : Nat) (tvf : Nat → Value) (cs : List Int) (tl : List (List I8)) (h : LitG w C ca cc ta tc tvf cs tl) (hC : C ≤ w.heap.size) (hsd : soundP cs tl = true) (hco : csOk cs) (hio : ∀ l ∈ tl, ∀ x ∈ l, immOk x) :
    Calls Tryz.prog 27 #[.agg (litC ca cs.length cc ta tl.length tc)] w fun e w' => ∃ v ys, e = .returned (.tuple #[v, .int .i64 0]) ∧ Outs w w' cs tl v ys := by
  obtain ⟨hc4, hn4, -⟩ := sound_facts hsd
  have k0 : Keeps (fun _ => False) w (w.alloc (.cells (litC ca cs.length cc ta tl.length tc) 49)) := (Keeps.refl _ _).alloc _
  have HL := explore_any (w.alloc (.cells (litC ca cs.length cc ta tl.length tc) 49)) C ca cc ta tc tvf cs tl (h.later (k0.below hC (fun _ _ e => e))) (by rw [szAl]; omega) hsd hco hio
  have HLL : Hid (∀ _ : Unit, _) := fun _ => HL
  have HK0 : Hid (Below w.heap.size w (w.alloc (.cells (litC ca cs.length cc ta tl.length tc) 49)) ∧ soundP cs tl = true ∧ w.heap.size ≤ (w.alloc (.cells (litC ca cs.length cc ta tl.length tc) 49)).heap.size) := ⟨k0.below (Nat.le_refl _) (fun _ _ e => e), hsd, by rw [szAl]; omega⟩
  clear h HL k0 hsd hco hio
  go_enter Tryz.func27, Tryz.ntmps27
  go_wp2_with fail
  refine (HLL.out ()).mono ?_
  rintro e w1 ⟨kb, rfl, hE⟩
  clear HLL
  obtain ⟨G, B, bb, hb, qb, tv, a, mb, vv, ev, V, hB, hx⟩ := hE
  have HX : Hid (BdIs B cs tl ∧ Ex (w.alloc (.cells (litC ca cs.length cc ta tl.length tc) 49)) w1 cs tl G B bb hb qb tv a kb mb vv ev V V.length) := ⟨hB, hx⟩
  have hBn : 1 ≤ B.n ∧ B.n ≤ 4 := by rw [hB.n]; exact hn4
  have hBw : 1 ≤ B.wd ∧ B.wd ≤ 4 := by rw [hB.w]; exact hc4
  have hfew : V.length ≤ 6103515625 := by
    have := hx.o
    rw [hB.i, hB.n] at this
    exact few_all HK0.out.2.1 this
  obtain ⟨E, hEE⟩ : ∃ E, endsP (tsL B.ins B.n) V V.length = E := ⟨_, rfl⟩
  have hEn : E ≠ [] := by
    obtain ⟨k, v, hk, _⟩ := ends_all hB hx.o (end_some HK0.out.2.1 [])
    rw [hEE] at hk
    exact List.ne_nil_of_mem hk
  have hEl : E.length ≤ V.length := by rw [← hEE]; exact ends_len _ _ _
  have hwb := hx.h
  rw [hEE] at hwb
  obtain ⟨ge, ce, hev, -, -⟩ := owG_some hwb.k.e hEn
  subst hev
  have HE : Hid (endsP (tsL B.ins B.n) V V.length = E ∧ E ≠ []) := ⟨hEE, hEn⟩
  have HG : Hid ((∀ y, G y → y < w1.heap.size) ∧ ∀ y, fK kb mb vv (.slice (some ⟨ge, 0, none⟩) E.length ce) y → y < w1.heap.size) := ⟨hwb.b.gl, fun y hy => hwb.k.lt hy⟩
  have HO0 : Hid (OL w1 w1 G B bb hb qb tv kb mb vv (.slice (some ⟨ge, 0, none⟩) E.length ce) V E (.slice none 0 0) [] 0) := ⟨OwG.nil _ _ _ _ _, rfl, (fun x hx => by cases hx), (fun j x hj => by simp at hj), ⟨a, hwb⟩, Keeps.refl _ _, List.Pairwise.nil, (fun x hx => by cases hx)⟩
  have c3 := (cell?_heap hwb.k.k 3).trans rfl
  clear hB hx hEE hEn hwb
  go_wp2_with fail
  clear c3
  go_loopw [6, 22] (fun c6 c wr => ∃ (t : Nat) (xs : List OuD), c = .int .i64 (t : Int) ∧ t ≤ E.length ∧ OL w1 wr G B bb hb qb tv kb mb vv (.slice (some ⟨ge, 0, none⟩) E.length ce) V E c6 xs t) (fun _ c _ => E.length - (intOf c).toNat)
  case atStart => exact ⟨0, [], rfl, Nat.zero_le _, HO0.out⟩
  case round =>
    rename World => wr
    obtain ⟨t, xs, rfl, ht, hO⟩ := hrel
    obtain ⟨xa, xc, rfl⟩ := hO.o.form
    have hxn := hO.l
    rw [hxn] at hO ⊢
    have HO : Hid (OL w1 wr G B bb hb qb tv kb mb vv (.slice (some ⟨ge, 0, none⟩) E.length ce) V E (.slice xa t xc) xs t ∧ xs.length = t) := ⟨hO, hxn⟩
    have t0 : (0 : Int) ≤ (t : Int) := Int.natCast_nonneg _
    by_cases h5 : t < E.length
    · have t1 : (t : Int) < (E.length : Int) := by omega
      obtain ⟨ar, hW⟩ := hO.b
      have cE : wr.cell? ⟨ge, t, none⟩ = some (.int .i64 ((E[t] : Nat) : Int)) := by
        rw [World.ownsRow.cellAt hW.k.e t (by omega)]
        have := flat_get enC 1 (fun _ => rfl) E t h5 0 (by decide)
        rw [Nat.mul_one, Nat.add_zero] at this
        rw [this]
        rfl
      have HW : Hid (Wb wr G B bb hb qb tv ar kb mb vv (.slice (some ⟨ge, 0, none⟩) E.length ce) V E) := hW
      obtain ⟨k, hkE⟩ : ∃ k, E[t] = k := ⟨_, rfl⟩
      rw [hkE] at cE
      have HKE : Hid (E[t]? = some k) := by show _ = _; rw [List.getElem?_eq_getElem h5, hkE]
      clear hO hxn hW hkE
      go_wp2_with fail
      have hkm : k ∈ endsP (tsL B.ins B.n) V V.length := by rw [HE.out.1]; exact List.mem_of_getElem? HKE.out
      obtain ⟨v, hv, hvE, -⟩ := ends_is HX.out.1 HX.out.2.o hkm
      refine (outcome_any wr G B HX.out.1.ok bb hb qb tv ar kb mb vv _ V E HW.out hBn hBw k v hv (HX.out.2.g v (List.mem_of_getElem? hv)) hfew).mono ?_
      rintro e w2 ⟨g, rv, rfl, o1, o2, ⟨a2, hW2⟩, k2, n2⟩
      obtain ⟨ra, rc, hrv⟩ := o2.form
      subst hrv
      have hM : w1.heap.size ≤ wr.heap.size := HO.out.1.k.size
      have hXN : OuW w2 wr.heap.size ⟨some ⟨g, 0, none⟩, B.wd, ra, rc, wlL (decS v.1).wo B.wd, regsL (decS v.1).rg B.n⟩ ∧ InO ⟨some ⟨g, 0, none⟩, B.wd, ra, rc, wlL (decS v.1).wo B.wd, regsL (decS v.1).rg B.n⟩ := by
        refine ⟨⟨by show OwW w2 _ (.slice _ (wlL (decS v.1).wo B.wd).length _) _; rw [wlL_len]; exact o1, o2, by show (wlL _ _).length ≤ _; rw [wlL_len]; omega, by show (regsL _ _).length ≤ _; rw [regsL_len]; omega⟩, fun b hb1 hb2 => ?_⟩
        have e1 : g = b := Option.some.inj hb1
        exact n2 b hb2 e1.symm
      have HXN : Hid (OuW w2 wr.heap.size ⟨some ⟨g, 0, none⟩, B.wd, ra, rc, wlL (decS v.1).wo B.wd, regsL (decS v.1).rg B.n⟩ ∧ InO ⟨some ⟨g, 0, none⟩, B.wd, ra, rc, wlL (decS v.1).wo B.wd, regsL (decS v.1).rg B.n⟩) := hXN
      clear hXN n2
      have hX2 : OuW w2 w1.heap.size ⟨some ⟨g, 0, none⟩, B.wd, ra, rc, wlL (decS v.1).wo B.wd, regsL (decS v.1).rg B.n⟩ := ⟨by show OwW w2 _ (.slice _ (wlL (decS v.1).wo B.wd).length _) _; rw [wlL_len]; exact o1.down hM, o2.down hM, by show (wlL _ _).length ≤ _; rw [wlL_len]; omega, by show (regsL _ _).length ≤ _; rw [regsL_len]; omega⟩
      have H2 : Hid (OuW w2 w1.heap.size ⟨some ⟨g, 0, none⟩, B.wd, ra, rc, wlL (decS v.1).wo B.wd, regsL (decS v.1).rg B.n⟩ ∧ Wb w2 G B bb hb qb tv a2 kb mb vv (.slice (some ⟨ge, 0, none⟩) E.length ce) V E ∧ Keeps G wr w2 ∧ w1.heap.size ≤ w2.heap.size ∧ V[k]? = some v) := ⟨hX2, hW2, k2, Nat.le_trans hM k2.size, hv⟩
      have HOW : Hid (OwG ouC 51 2 w2 w1.heap.size (.slice xa t xc) xs) := owK HO.out.1.o k2 (fun y hy e => by have := (World.ownsRow.lt HO.out.1.o y hy).1; have := HG.out.1 y e; omega)
      have hyl : (regsL (decS v.1).rg B.n).length = 4 * B.n := regsL_len _ _
      obtain ⟨yn, hyn⟩ : ∃ yn, (regsL (decS v.1).rg B.n).length = yn := ⟨_, rfl⟩
      have HYN : Hid ((regsL (decS v.1).rg B.n).length = yn) := hyn
      rw [hyn]
      clear o1 o2 hW2 k2 hX2 hv hkm hvE hyl hyn cE
      have hB51 : 140737488355328 ≥ (t + 1) * 48 := by omega
      go_wp2_with (at_builtin; refine hideG ?_)
      change wpList _ _ _ _ _ _
      refine app_one (cs := ouC) (wr := w2) (by rfl) _ _ 63 51 (by rfl) Tryz.underlying63 infoOu rfl (by decide) (fun _ => rfl) w1.heap.size _ xs ⟨some ⟨g, 0, none⟩, B.wd, ra, rc, wlL (decS v.1).wo B.wd, regsL (decS v.1).rg B.n⟩ HOW.out (by rfl) w2.heap.size rfl (by rfl) (ouC_one _) _ (by show _ = (ouC _).toArray; unfold ouC; dsimp only; rw [wlL_len, HYN.out]) (by have := HO.out.2; unfold maxLen; omega) (by have := HO.out.2; rw [this]; exact hB51) H2.out.2.2.2.1 ?_
      intro v5 w5 ho5 hb5 hk5
      have H5 : Hid (OL w1 w5 G B bb hb qb tv kb mb vv (.slice (some ⟨ge, 0, none⟩) E.length ce) V E v5 (xs ++ [⟨some ⟨g, 0, none⟩, B.wd, ra, rc, wlL (decS v.1).wo B.wd, regsL (decS v.1).rg B.n⟩]) (t + 1)) := by
        obtain ⟨hx2, hW2, k2, hM2, hv⟩ := H2.out
        have kk : Keeps (fun y => w1.heap.size ≤ y) w2 w5 := ⟨hb5.os, hb5.tape, hb5.output, hb5.size, fun x hx hn => hb5.block x (Nat.lt_of_not_le hn)⟩
        refine ⟨ho5, by rw [List.length_append, HO.out.2]; rfl, fun x hx => ?_, fun j x hj => ?_, ⟨a2, hW2.b.keeps kk (fun y e hG => by have := HG.out.1 y hG; omega), hW2.k.keeps kk (fun y e hy => by have := HG.out.2 y hy; omega), hW2.d, hW2.c⟩, ?_, ?_, fun x hx => ?_⟩
        · have old : OuW w2 w1.heap.size x → OuW w5 w1.heap.size x := fun h => ⟨h.o1.kept hk5 (by decide), h.o2.kept hk5 (by decide), h.l1, h.l2⟩
          rcases List.mem_append.1 hx with e | e
          · exact old ((HO.out.1.x x e).keeps k2 (fun g' c' e' hb' e => by have := HG.out.1 g' e; omega))
          · rw [List.mem_singleton.1 e] at old ⊢; exact old hx2
        · by_cases hjl : j < xs.length
          · rw [List.getElem?_append_left hjl] at hj
            exact HO.out.1.i j x hj
          · have hj2 := (List.getElem?_eq_some_iff.1 hj).1
            rw [List.length_append, List.length_singleton] at hj2
            have hjt : j = xs.length := by omega
            subst hjt
            rw [List.getElem?_append_right (Nat.le_refl _), Nat.sub_self] at hj
            injection hj with hj
            subst hj
            exact ⟨k, v, by rw [HO.out.2]; exact HKE.out, hv, rfl, rfl⟩
        · have k1 := HO.out.1.k.trans k2
          exact ⟨hb5.os.trans k1.os, hb5.tape.trans k1.tape, hb5.output.trans k1.output, Nat.le_trans k1.size hb5.size, fun x hx hn => (hb5.block x hx).trans (k1.block x hx hn)⟩
        · rw [List.pairwise_append]
          refine ⟨HO.out.1.q, List.pairwise_singleton _ _, fun a ha b hb x hxa hxb => ?_⟩
          rw [List.mem_singleton.1 hb] at hxb
          have h1 := ((HO.out.1.x a ha).ob hxa).2
          have h2 := (HXN.out.1.ob hxb).1
          omega
        · rcases List.mem_append.1 hx with e | e
          · exact HO.out.1.r x e
          · rw [List.mem_singleton.1 e]; exact HXN.out.2
      clear ho5 hb5 hk5 hB51
      go_wp2
      go_roundw
      case rel => exact ⟨t + 1, _, by go_num, by omega, H5.out⟩
      case measure => simp [intOf]; omega
    · obtain rfl : t = E.length := by omega
      have hxe : xs ≠ [] := fun e => by rw [e] at hxn; exact HE.out.2 (List.eq_nil_of_length_eq_zero hxn.symm)
      obtain ⟨gx, cx, hxx, -, -⟩ := owG_some hO.o hxe
      injection hxx with x1 x2 x3
      subst x1 x3
      have hs := sort_any wr w1.heap.size gx xc xs (by rw [hxn]; exact hO.o) hO.x hxe (by omega)
      rw [hxn] at hs
      have HSS : Hid (∀ _ : Unit, _) := fun _ => hs
      clear hs hO hxn hxe x2
      go_wp2_with fail
      refine (HSS.out ()).mono ?_
      rintro e w6 ⟨rfl, ys, hp, hin, hou, k6, hso, how⟩
      have H6 : Hid (Outs w w6 cs tl (.slice (some ⟨gx, 0, none⟩) E.length xc) ys) := by
        have hx := HX.out.2
        have hB := HX.out.1
        have hO := HO.out.1
        have z0 := HK0.out.2.2
        have b1 : Below w.heap.size w w1 := HK0.out.1.trans (hx.k.mono z0)
        have z1 : w.heap.size ≤ w1.heap.size := b1.size
        have b2 : Below w.heap.size w wr := b1.trans (hO.k.below z1 (fun y hy e => by have := hx.b y e; omega))
        refine ⟨hin, fun y hy => (hou y hy).down z1, b2.trans (k6.below b2.size (fun y hy e => by have e : w1.heap.size ≤ y := e; omega)), fun y hy => ?_, fun u hu => ?_, ?_, hso, (hp.pairwise_iff (fun {a b} h e => h ⟨e.1.symm, e.2.symm⟩)).2 ?_, how.down z1, (hp.pairwise_iff (fun {a b} h => h.symm)).2 hO.q, fun y hy => hO.r y (hp.mem_iff.1 hy)⟩
        · obtain ⟨j, hj⟩ := List.getElem?_of_mem (hp.mem_iff.1 hy)
          obtain ⟨k, v, h1, h2, h3, h4⟩ := hO.i j y hj
          have hk : k ∈ endsP (tsL B.ins B.n) V V.length := by rw [HE.out.1]; exact List.mem_of_getElem? h1
          obtain ⟨v', hv', he, _⟩ := ends_is hB hx.o hk
          rw [h2] at hv'
          injection hv' with hv'
          subst hv'
          exact ⟨v.1, he, by rw [h3, hB.w], by rw [h4, hB.n]⟩
        · obtain ⟨k, v, hk, hv, hvu⟩ := ends_all hB hx.o hu
          rw [HE.out.1] at hk
          obtain ⟨j, hj⟩ := List.getElem?_of_mem hk
          have hjl := (List.getElem?_eq_some_iff.1 hj).1
          have hjx' : j < xs.length := by rw [HO.out.2]; exact hjl
          have hjx : xs[j]? = some xs[j] := List.getElem?_eq_getElem hjx'
          obtain ⟨k', v', h1, h2, h3, h4⟩ := hO.i j _ hjx
          rw [hj] at h1
          injection h1 with h1
          subst h1
          rw [hv] at h2
          injection h2 with h2
          subst h2
          exact ⟨xs[j], hp.mem_iff.2 (List.mem_of_getElem? hjx), by rw [h3, hB.w, hvu], by rw [h4, hB.n, hvu]⟩
        · rw [hp.length_eq, HO.out.2]; omega
        · rw [List.pairwise_iff_getElem]
          intro i j hi hj hij ee
          obtain ⟨k, v, h1, h2, h3, h4⟩ := hO.i i xs[i] (List.getElem?_eq_getElem hi)
          obtain ⟨k', v', g1, g2, g3, g4⟩ := hO.i j xs[j] (List.getElem?_eq_getElem hj)
          have m1 : k ∈ endsP (tsL B.ins B.n) V V.length := by rw [HE.out.1]; exact List.mem_of_getElem? h1
          have m2 : k' ∈ endsP (tsL B.ins B.n) V V.length := by rw [HE.out.1]; exact List.mem_of_getElem? g1
          obtain ⟨z, hz, he, _⟩ := ends_is hB hx.o m1
          rw [h2] at hz
          injection hz with hz
          subst hz
          obtain ⟨z', hz', he', _⟩ := ends_is hB hx.o m2
          rw [g2] at hz'
          injection hz' with hz'
          subst hz'
          have ev : v.1 = v'.1 := end_one HK0.out.2.1 he he' (X := xs[i].X) (Y := xs[i].Y) ⟨by rw [h3, hB.w], by rw [h4, hB.n]⟩ ⟨by rw [ee.1, g3, hB.w], by rw [ee.2, g4, hB.n]⟩
          have i1 : (V.map (·.1))[k]? = some v.1 := by rw [List.getElem?_map, h2]; rfl
          have i2 : (V.map (·.1))[k']? = some v.1 := by rw [List.getElem?_map, g2, ev]; rfl
          have hkl := (List.getElem?_eq_some_iff.1 i1).1
          have ek := (List.getElem?_inj hkl hx.o.u).1 (i1.trans i2.symm)
          subst ek
          have hnd : E.Nodup := by rw [← HE.out.1]; exact endsP_nodup _ _ _
          have eij := (List.getElem?_inj (List.getElem?_eq_some_iff.1 h1).1 hnd).1 (h1.trans g1.symm)
          omega
      clear hp hin hou k6 hso how HSS
      go_wp2
      go_ret2
      exact ⟨_, ys, rfl, H6.out⟩
end Go.Proofs.YtdpebhdjcgiboaaGreat
