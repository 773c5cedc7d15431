import Derived.Test.YtdpebhdjcgiboaaGreatKSi1
import Derived.Test.YtdpebhdjcgiboaaGreatKSoP
namespace Go.Proofs.YtdpebhdjcgiboaaGreat
set_option linter.unusedSimpArgs false
open Go.ChangeShapes Go.WideShapes Go.ChangeAt Go.RowKit Go.MuLone Go.RwLone
set_option linter.unusedVariables false
set_option maxRecDepth 100000
set_option maxHeartbeats 3200000
/-- Any two lists. -/
theorem sameWx (w : World) (C : Nat) (hC : C ≤ w.heap.size) (a1 : Option Addr) (c1 : Nat) (a2 : Option Addr) (c2 : Nat) (xs ys : List Int) (h1 : InG wdC w C (.slice a1 xs.length c1) xs) (h2 : InG wdC w C (.slice a2 ys.length c2) ys) (hn : xs.length ≤ 140737488355328) (hm : ys.length ≤ 140737488355328) :
    Calls Tryz.prog 49 #[.slice a1 xs.length c1, .slice a2 ys.length c2] w fun e w' => e = .returned (.bool (decide (xs = ys))) ∧ Keeps (fun _ => False) w w' := by
  have H : Hid (∀ W, Keeps (fun _ => False) w W → InG wdC W C (.slice a1 xs.length c1) xs ∧ InG wdC W C (.slice a2 ys.length c2) ys) := fun W k => ⟨h1.later (k.below hC (fun _ _ e => e)), h2.later (k.below hC (fun _ _ e => e))⟩
  clear h1 h2
  by_cases hl : xs.length = ys.length
  · have HL : Hid (xs.length = ys.length) := hl
    obtain ⟨n, hxn⟩ : ∃ n, xs.length = n := ⟨_, rfl⟩
    have hyn : ys.length = n := by rw [← hl]; exact hxn
    rw [hxn, hyn] at H ⊢
    have HXN : Hid (xs.length = n ∧ ys.length = n) := ⟨hxn, hyn⟩
    rw [hxn] at hn
    obtain ⟨q, hq⟩ : ∃ q, decide (xs = ys) = q := ⟨_, rfl⟩
    have HQ : Hid (decide (xs = ys) = q) := hq
    rw [hq]
    clear hl hm hxn hyn hq
    go_enter Tryz.func49, Tryz.ntmps49
    go_wp2_with fail
    go_loopw [5] (fun c wr => ∃ t : Nat, c = .int .i64 t ∧ t ≤ n ∧ xs.take t = ys.take t ∧ Keeps (fun _ => False) w wr) (fun c _ => n - (intOf c).toNat)
    case atStart => exact ⟨0, rfl, by omega, rfl, Keeps.refl _ _⟩
    case round =>
      obtain ⟨t, rfl, ht, htk, hk⟩ := hrel
      have HK : Hid (Keeps (fun _ => False) w wr ∧ xs.take t = ys.take t) := ⟨hk, htk⟩
      clear hk htk
      by_cases h5 : t < n
      · have t0 : (0 : Int) ≤ (t : Int) := Int.natCast_nonneg _
        have t1 : (t : Int) < (n : Int) := by omega
        have hx5 : t < xs.length := by rw [HXN.out.1]; exact h5
        have hy5 : t < ys.length := by rw [HXN.out.2]; exact h5
        obtain ⟨b1, o1, rfl, -, q1⟩ := (H.out wr HK.out.1).1.wd2 t hx5
        obtain ⟨b2, o2, rfl, -, q2⟩ := (H.out wr HK.out.1).2.wd2 t hy5
        have HN : Hid (Keeps (fun _ => False) w wr.drew) := HK.out.1.drew
        obtain ⟨x, hx⟩ : ∃ x, xs[t] = x := ⟨_, rfl⟩
        obtain ⟨y, hy⟩ : ∃ y, ys[t] = y := ⟨_, rfl⟩
        rw [hx] at q1
        rw [hy] at q2
        have HXY : Hid (xs[t]? = some x ∧ ys[t]? = some y) := ⟨by rw [List.getElem?_eq_getElem hx5, hx], by rw [List.getElem?_eq_getElem hy5, hy]⟩
        clear hx hy hx5 hy5
        go_wp2_with fail
        (refine wp_region_held_drew (S := (fun W => W.cell? ⟨b1, o1 + t, none⟩ = some (.int .u64 x) ∧ W.cell? ⟨b2, o2 + t, none⟩ = some (.int .u64 y))) (by kernel_rfl) ⟨q1, q2⟩ (fun hHeld => ?_); simp only [List.size_toArray, List.length_cons, List.length_nil, Nat.reduceAdd, Array.replicate_succ, Array.replicate_zero, List.push_toArray, List.append_toArray, List.nil_append, List.cons_append])
        refine rgT 0 (h := ?_)
        refine rgT 1 (h := ?_)
        refine rgT 2 (h := ?_)
        refine rgT 3 (h := ?_)
        refine rgT 4 (h := ?_)
        refine rgT 5 (h := ?_)
        refine rgT 6 (h := ?_)
        refine rgT 7 (h := ?_)
        by_cases he : x = y
        · have HE : Hid (x = y) := he
          refine rgT 8 (h := ?_)
          refine wpAnyH_done (by kernel_rfl) ?_ _
          clear q1 q2 hHeld
          go_wp2
          go_roundw
          case rel => exact ⟨t + 1, by go_num, by omega, by rw [List.take_add_one, List.take_add_one, HK.out.2, HXY.out.1, HXY.out.2, HE.out], HN.out⟩
          case measure => simp [intOf]; omega
        · have HE : Hid (¬ x = y) := he
          refine rgT 8 (h := ?_)
          refine wpAnyH_done (by kernel_rfl) ?_ _
          clear q1 q2 hHeld
          go_wp2
          go_ret
          refine ⟨?_, HN.out⟩
          have : q = false := by
            rw [← HQ.out]
            apply decide_eq_false
            intro e
            have := HXY.out.1
            rw [e, HXY.out.2] at this
            injection this with this
            exact HE.out this.symm
          rw [this]
          rfl
      · go_wp2
        go_ret
        refine ⟨?_, HK.out.1⟩
        obtain rfl : t = n := by omega
        have h7 := HK.out.2
        rw [List.take_of_length_le (by rw [HXN.out.1]; exact Nat.le_refl _), List.take_of_length_le (by rw [HXN.out.2]; exact Nat.le_refl _)] at h7
        have : q = true := by rw [← HQ.out]; exact decide_eq_true h7
        rw [this]
        rfl
  · have hd : decide (xs = ys) = false := decide_eq_false (fun e => hl (by rw [e]))
    rw [hd]
    have hl2 : ¬ (xs.length : Int) = (ys.length : Int) := by omega
    have HK : Hid (Keeps (fun _ => False) w w) := Keeps.refl _ _
    generalize xs.length = n at *
    generalize ys.length = m at *
    go_enter Tryz.func49, Tryz.ntmps49
    go_wp2
    go_ret
    exact ⟨rfl, HK.out⟩
/-- Any two outcomes. -/
theorem sameOx (w : World) (C : Nat) (hC : C ≤ w.heap.size) (a1 : Option Addr) (c1 : Nat) (a2 : Option Addr) (c2 : Nat) (xs us : List Int) (a3 : Option Addr) (c3 : Nat) (a4 : Option Addr) (c4 : Nat) (ys vs : List Int) (h1 : InG wdC w C (.slice a1 xs.length c1) xs) (h2 : InG wdC w C (.slice a2 us.length c2) us) (h3 : InG wdC w C (.slice a3 ys.length c3) ys) (h4 : InG wdC w C (.slice a4 vs.length c4) vs) (l1 : xs.length ≤ 140737488355328) (l2 : us.length ≤ 140737488355328) (l3 : ys.length ≤ 140737488355328) (l4 : vs.length ≤ 140737488355328) :
    Calls Tryz.prog 23 #[.agg #[.slice a1 xs.length c1, .slice a3 ys.length c3], .agg #[.slice a2 us.length c2, .slice a4 vs.length c4]] w fun e w' => e = .returned (.bool (decide (xs = us) && decide (ys = vs))) ∧ Keeps (fun _ => False) w w' := by
  have k0 : Keeps (fun _ => False) w ((w.alloc (.cells #[.slice a1 xs.length c1, .slice a3 ys.length c3] 51)).alloc (.cells #[.slice a2 us.length c2, .slice a4 vs.length c4] 51)) := ((Keeps.refl _ _).alloc _).alloc _
  have HK0 : Hid (Keeps (fun _ => False) w ((w.alloc (.cells #[.slice a1 xs.length c1, .slice a3 ys.length c3] 51)).alloc (.cells #[.slice a2 us.length c2, .slice a4 vs.length c4] 51))) := k0
  have lt : ∀ {v : Value} {zs : List Int}, InG wdC w C v zs → ∀ W, Keeps (fun _ => False) w W → InG wdC W C v zs := fun h W k => h.later (k.below hC (fun _ _ e => e))
  have HX := sameWx _ C (Nat.le_trans hC k0.size) a1 c1 a2 c2 xs us (lt h1 _ k0) (lt h2 _ k0) l1 l2
  have HY : Hid (∀ W, Keeps (fun _ => False) w W → Calls Tryz.prog 49 #[.slice a3 ys.length c3, .slice a4 vs.length c4] W fun e w' => e = .returned (.bool (decide (ys = vs))) ∧ Keeps (fun _ => False) W w') := fun W k => sameWx W C (Nat.le_trans hC k.size) a3 c3 a4 c4 ys vs (lt h3 W k) (lt h4 W k) l3 l4
  have HC : Hid (∀ W, Keeps (fun _ => False) ((w.alloc (.cells #[.slice a1 xs.length c1, .slice a3 ys.length c3] 51)).alloc (.cells #[.slice a2 us.length c2, .slice a4 vs.length c4] 51)) W → W.cell? ⟨w.heap.size, 1, none⟩ = some (.slice a3 ys.length c3) ∧ W.cell? ⟨w.heap.size + 1, 1, none⟩ = some (.slice a4 vs.length c4)) := fun W k => by
    have s : ((w.alloc (.cells #[.slice a1 xs.length c1, .slice a3 ys.length c3] 51)).alloc (.cells #[.slice a2 us.length c2, .slice a4 vs.length c4] 51)).heap.size = w.heap.size + 2 := by rw [szAl, szAl]
    have e1 : W.heap[w.heap.size]? = some (.cells #[.slice a1 xs.length c1, .slice a3 ys.length c3] 51) := (k.block _ (by omega) (fun e => e)).trans ((Below.heap_alloc _ _ _ (by rw [szAl]; omega)).trans (heap_alloc_last _ _ _ rfl))
    have e2 : W.heap[w.heap.size + 1]? = some (.cells #[.slice a2 us.length c2, .slice a4 vs.length c4] 51) := (k.block _ (by omega) (fun e => e)).trans (heap_alloc_last _ _ _ (szAl _ _).symm)
    exact ⟨(cell?_heap e1 1).trans rfl, (cell?_heap e2 1).trans rfl⟩
  generalize decide (xs = us) = p at *
  generalize decide (ys = vs) = q at *
  have HXX : Hid (∀ _ : Unit, _) := fun _ => HX
  clear h1 h2 h3 h4 lt HX k0 l1 l2 l3 l4
  generalize xs.length = n1 at *
  generalize us.length = n2 at *
  generalize ys.length = n3 at *
  generalize vs.length = n4 at *
  go_enter Tryz.func23, Tryz.ntmps23
  go_wp2_with fail
  refine (HXX.out ()).mono ?_
  rintro e w2 ⟨rfl, k2⟩
  obtain ⟨q1, q2⟩ := HC.out w2 k2
  have HK2 : Hid (Keeps (fun _ => False) w w2) := HK0.out.trans k2
  clear k2 HXX
  cases p
  · go_wp2
    go_ret
    exact ⟨rfl, HK2.out⟩
  · go_wp2_with fail
    refine (HY.out w2 HK2.out).mono ?_
    rintro e w3 ⟨rfl, k3⟩
    have HK3 : Hid (Keeps (fun _ => False) w w3) := HK2.out.trans k3
    clear k3 q1 q2
    go_wp2
    go_ret
    exact ⟨by simp, HK3.out⟩
end Go.Proofs.YtdpebhdjcgiboaaGreat

namespace Go.Proofs.YtdpebhdjcgiboaaGreat
set_option linter.unusedSimpArgs false
open Go.ChangeShapes Go.WideShapes Go.ChangeAt Go.RowKit Go.MuLone Go.RwLone
set_option linter.unusedVariables false
set_option maxRecDepth 100000
set_option maxHeartbeats 6400000
/-- Is this outcome among the first t? -/
def anyT (ys : List OuD) (X Y : List Int) (t : Nat) : Bool := (ys.take t).any (fun y => decide (y.X = X) && decide (y.Y = Y))
theorem anyT_succ (ys : List OuD) (X Y : List Int) (t : Nat) (h : t < ys.length) : anyT ys X Y (t + 1) = (anyT ys X Y t || (decide (ys[t].X = X) && decide (ys[t].Y = Y))) := by
  unfold anyT
  rw [List.take_add_one, List.any_append, List.getElem?_eq_getElem h]
  simp
theorem anyT_all (ys : List OuD) (X Y : List Int) (h : ∃ y ∈ ys, y.X = X ∧ y.Y = Y) : anyT ys X Y ys.length = true := by
  unfold anyT
  rw [List.take_of_length_le (Nat.le_refl _), List.any_eq_true]
  obtain ⟨y, hy, h1, h2⟩ := h
  exact ⟨y, hy, by rw [decide_eq_true h1, decide_eq_true h2]; rfl⟩
theorem end_out {cs : List Int} {tl : List (List I8)} (hsd : soundP cs tl = true) (vs : List (Int × Int × Int)) : OutOf cs tl (encS (endA cs tl vs).2) (wlL (endA cs tl vs).2.wo cs.length) (regsL (endA cs tl vs).2.rg tl.length) := by
  obtain ⟨hc4, hn4, _⟩ := sound_facts hsd
  obtain ⟨hc, _⟩ := end_reach hsd vs
  unfold OutOf
  rw [dec_enc hc hc4.2 hn4.2]
  exact ⟨rfl, rfl⟩
/-- The word of an end, run: its outcome. -/
theorem word_out {cs : List Int} {tl : List (List I8)} (hsd : soundP cs tl = true) {ws : List Nat} {u X Y : List Int} (hu : EndS cs tl u) (ho : OutOf cs tl u X Y) (hw : wrd (tsL (insL tl) tl.length) ws (encS (begA cs tl).2) u) : wlL (endA cs tl (wpk ws)).2.wo cs.length = X ∧ regsL (endA cs tl (wpk ws)).2.rg tl.length = Y := by
  obtain ⟨hc4, hn4, _⟩ := sound_facts hsd
  have hd : ∀ i, i < tl.length → dnI (insL tl) (decS u) i = true := fun i hi => by
    have := hu.2
    unfold allT at this
    rw [List.all_eq_true] at this
    exact this i (List.mem_range.2 hi)
  have e := end_word hsd hw hd
  obtain ⟨h1, h2⟩ := end_out hsd (wpk ws)
  rw [e] at h1 h2
  rw [h1, h2, ho.1, ho.2]
  exact ⟨rfl, rfl⟩
theorem consistent_walk (w : World) (C : Nat) (ca : Option Addr) (cc : Nat) (ta : Option Addr) (tc : Nat) (tvf : Nat → Value) (cs : List Int) (ts : List (List I8)) (h : LitG w C ca cc ta tc tvf cs ts) (hC : C ≤ w.heap.size) (hco : csOk cs) (hio : ∀ l ∈ ts, ∀ x ∈ l, immOk x) (s : ByteArray) (hs : s.size ≤ 1048576) :
    Calls Tryz.prog 8 #[.agg (litC ca cs.length cc ta ts.length tc), .string s] w fun e w' => e = .returned (.bool true) ∧ Below w.heap.size w w' := by
  have b0 : Below w.heap.size w (lgW w (litC ca cs.length cc ta ts.length tc)) := (Below.refl _ _).alloc (Nat.le_refl _) _
  have sz0 : (lgW w (litC ca cs.length cc ta ts.length tc)).heap.size = w.heap.size + 1 := szAl _ _
  have HLIT : Hid (∀ W, Below (w.heap.size + 1) (lgW w (litC ca cs.length cc ta ts.length tc)) W → LitG W C ca cc ta tc tvf cs ts ∧ W.heap[w.heap.size]? = some (.cells (litC ca cs.length cc ta ts.length tc) 49) ∧ Below w.heap.size w W) := fun W k => by
    have e : W.heap[w.heap.size]? = some (.cells (litC ca cs.length cc ta ts.length tc) 49) := (k.block _ (by omega)).trans (heap_alloc_last _ _ _ rfl)
    exact ⟨h.later ((b0.mono hC).trans (k.mono (by omega))), e, b0.trans (k.mono (by omega))⟩
  have HSO := rSound_any (lgW w (litC ca cs.length cc ta ts.length tc)) C ca cc ta tc tvf cs ts (HLIT.out _ (Below.refl _ _)).1 (by omega)
  obtain ⟨sd, hsd⟩ : ∃ sd, soundP cs ts = sd := ⟨_, rfl⟩
  have HSD : Hid (soundP cs ts = sd) := hsd
  rw [hsd] at HSO
  have HSS : Hid (∀ _ : Unit, _) := fun _ => HSO
  have HCI : Hid (csOk cs ∧ (∀ l ∈ ts, ∀ x ∈ l, immOk x) ∧ s.size ≤ 1048576) := ⟨hco, hio, hs⟩
  have HZ0 : Hid (Below w.heap.size w (lgW w (litC ca cs.length cc ta ts.length tc)) ∧ (lgW w (litC ca cs.length cc ta ts.length tc)).heap.size = w.heap.size + 1) := ⟨b0, sz0⟩
  clear HSO h hco hio hs hsd b0 sz0
  go_enter Tryz.func8, Tryz.ntmps8
  go_wp2_with fail
  refine (HSS.out ()).mono ?_
  rintro e w1 ⟨rfl, k1⟩
  generalize lgW w (litC ca cs.length cc ta ts.length tc) = w0 at *
  have HB1 : Hid (Below (w.heap.size + 1) w0 w1) := k1.below (by have := HZ0.out.2; omega) (fun _ _ e => e)
  clear k1 HSS
  cases sd
  · go_wp2
    go_ret
    exact ⟨rfl, HZ0.out.1.trans (HB1.out.mono (by omega))⟩
  · have hsd := HSD.out
    obtain ⟨hc4, hn4, hall⟩ := sound_facts hsd
    have HCP : Hid (∀ W, Below (w.heap.size + 1) w0 W → C ≤ W.heap.size ∧ W.cell? ⟨w.heap.size, 0, none⟩ = some (.slice ca cs.length cc) ∧ W.cell? ⟨w.heap.size, 1, none⟩ = some (.slice ta ts.length tc) ∧ Calls Tryz.prog 31 #[.agg (litC ca cs.length cc ta ts.length tc)] W fun e w' => ∃ ca' cc' ta' tc' tv', e = .returned (.agg (litC ca' cs.length cc' ta' ts.length tc')) ∧ LitG w' w'.heap.size ca' cc' ta' tc' tv' cs ts ∧ Below W.heap.size W w') := fun W k => by
      obtain ⟨g1, g2, g3⟩ := HLIT.out W k
      have := g3.size
      exact ⟨by omega, (cell?_heap g2 0).trans rfl, (cell?_heap g2 1).trans rfl, copyLit W C ca cc ta tc tvf cs ts g1 (by omega) (by omega) (by omega) (fun i hi => by have := (hall i hi).1; omega)⟩
    clear hall
    obtain ⟨-, q0, q1, -⟩ := HCP.out w1 HB1.out
    go_wp2_with fail
    refine (HCP.out w1 HB1.out).2.2.2.mono ?_
    rintro e w2 ⟨ca1, cc1, ta1, tc1, tv1, rfl, g2, b2⟩
    have HRN := runG w2 w2.heap.size ca1 cc1 ta1 tc1 tv1 cs ts g2 (Nat.le_refl _) hsd HCI.out.1 HCI.out.2.1 s HCI.out.2.2
    have HRR : Hid (∀ _ : Unit, _) := fun _ => HRN
    have HB2 : Hid (Below (w.heap.size + 1) w0 w2) := HB1.out.trans (b2.mono (by have := HB1.out.size; have := HZ0.out.2; omega))
    clear HRN b2 g2 q0 q1
    go_wp2_with fail
    refine (HRR.out ()).mono ?_
    rintro e w3 ⟨go, rv, rfl, o1, o2, b3⟩
    obtain ⟨X0, hX0⟩ : ∃ X0, wlL (endA cs ts (dL s.data.toList)).2.wo cs.length = X0 := ⟨_, rfl⟩
    obtain ⟨Y0, hY0⟩ : ∃ Y0, regsL (endA cs ts (dL s.data.toList)).2.rg ts.length = Y0 := ⟨_, rfl⟩
    rw [hX0] at o1
    rw [hY0] at o2
    have HEO : Hid (∃ u, EndS cs ts u ∧ OutOf cs ts u X0 Y0) := ⟨_, end_some hsd (dL s.data.toList), by rw [← hX0, ← hY0]; exact end_out hsd _⟩
    obtain ⟨ra, rc, hrv⟩ := o2.form
    subst hrv
    have lX : X0.length = cs.length := by rw [← hX0, wlL_len]
    have lY : Y0.length = 4 * ts.length := by rw [← hY0, regsL_len]
    have HO3 : Hid (OwW w3 w2.heap.size (.slice (some ⟨go, 0, none⟩) cs.length cs.length) X0 ∧ OwW w3 w2.heap.size (.slice ra Y0.length rc) Y0 ∧ X0.length = cs.length ∧ Y0.length = 4 * ts.length) := ⟨o1.down (by omega), o2.down (by have := (World.ownsRow.lt o1 go rfl).1; omega), lX, lY⟩
    have HB3 : Hid (Below (w.heap.size + 1) w0 w3 ∧ w.heap.size + 1 ≤ w2.heap.size) := ⟨HB2.out.trans (b3.mono (by have := HB2.out.size; have := HZ0.out.2; omega)), by have := HB2.out.size; have := HZ0.out.2; omega⟩
    obtain ⟨yn, hyn⟩ : ∃ yn, Y0.length = yn := ⟨_, rfl⟩
    rw [hyn]
    have HYN : Hid (Y0.length = yn) := hyn
    clear o1 o2 b3 HRR hX0 hY0 lX lY hyn HB2 HB1
    have HB4 : Hid (Below (w.heap.size + 1) w0 (w3.alloc (.cells #[(.slice (some ⟨go, 0, none⟩) cs.length cs.length), .slice ra yn rc] 51))) := HB3.out.1.alloc (by have := HB3.out.1.size; have := HZ0.out.2; omega) _
    have HO4 : Hid ((w3.alloc (.cells #[(.slice (some ⟨go, 0, none⟩) cs.length cs.length), .slice ra yn rc] 51)).heap[w3.heap.size]? = some (.cells #[(.slice (some ⟨go, 0, none⟩) cs.length cs.length), .slice ra yn rc] 51) ∧ OwW (w3.alloc (.cells #[(.slice (some ⟨go, 0, none⟩) cs.length cs.length), .slice ra yn rc] 51)) w2.heap.size (.slice (some ⟨go, 0, none⟩) cs.length cs.length) X0 ∧ OwW (w3.alloc (.cells #[(.slice (some ⟨go, 0, none⟩) cs.length cs.length), .slice ra yn rc] 51)) w2.heap.size (.slice ra yn rc) Y0 ∧ X0.length = cs.length ∧ Y0.length = yn ∧ yn = 4 * ts.length) := ⟨heap_alloc_last _ _ _ rfl, World.ownsRow.alloc HO3.out.1 _, by have := World.ownsRow.alloc HO3.out.2.1 (.cells #[(.slice (some ⟨go, 0, none⟩) cs.length cs.length), .slice ra yn rc] 51); rw [HYN.out] at this; unfold OwW OwG; rw [HYN.out]; exact this, HO3.out.2.2.1, HYN.out, by rw [← HYN.out]; exact HO3.out.2.2.2⟩
    obtain ⟨-, q0, q1, -⟩ := HCP.out _ HB4.out
    go_wp2_with fail
    refine (HCP.out _ HB4.out).2.2.2.mono ?_
    rintro e w5 ⟨ca2, cc2, ta2, tc2, tv2, rfl, g5, b5⟩
    generalize hw4 : w3.alloc (.cells #[(.slice (some ⟨go, 0, none⟩) cs.length cs.length), .slice ra yn rc] 51) = w4 at *
    have HZ4 : Hid (w3.heap.size < w4.heap.size) := by show _ < _; rw [← hw4, szAl]; omega
    clear hw4 q0 q1 HO3 HB3
    have HOT := outcomes_any w5 w5.heap.size ca2 cc2 ta2 tc2 tv2 cs ts g5 (Nat.le_refl _) hsd HCI.out.1 HCI.out.2.1
    have HOO : Hid (∀ _ : Unit, _) := fun _ => HOT
    have HB5 : Hid (Below w4.heap.size w4 w5) := b5
    clear HOT b5 g5
    go_wp2_with fail
    refine (HOO.out ()).mono ?_
    rintro e w6 ⟨av, ys, rfl, hou⟩
    obtain ⟨aa, ac, hav⟩ := hou.i.form
    subst hav
    have hyl := hou.l
    obtain ⟨n, hnn⟩ : ∃ n, ys.length = n := ⟨_, rfl⟩
    rw [hnn] at hyl ⊢
    have HU : Hid (Outs w5 w6 cs ts (.slice aa n ac) ys ∧ ys.length = n ∧ Below w4.heap.size w4 w6) := ⟨by rw [← hnn]; exact hou, hnn, HB5.out.trans (hou.k.mono HB5.out.size)⟩
    clear hou hnn HOO
    go_wp2_with fail
    have hnq0 : 0 ≤ (n : Int) / 200 ∧ (n : Int) / 200 ≤ 30517579 := by omega
    generalize (n : Int) / 200 = nq at *
    have hea1 : 1 ≤ 1 + nq ∧ 1 + nq ≤ 30517580 := by omega
    generalize 1 + nq = ea at *
    clear hnq0
    have hn0 : 0 < n := by
      obtain ⟨u, h1, h2⟩ := HEO.out
      obtain ⟨y, hy, _⟩ := HU.out.1.a u h1
      have := List.length_pos_of_mem hy
      rw [← HU.out.2.1]
      exact this
    have hM := HU.out.2.2.size
    obtain ⟨ba, oa, haa⟩ : ∃ ba oa, aa = some ⟨ba, oa, none⟩ := by
      obtain ⟨b, off, e, _⟩ := InG.cell (cs := ouC) (n := 2) (fun _ => rfl) HU.out.1.i 0 (by rw [HU.out.2.1]; exact hn0) (by decide)
      exact ⟨b, off, e⟩
    subst haa
    have HFA : Hid (∀ W, Below w6.heap.size w6 W → Below (w.heap.size + 1) w0 W ∧ W.cell? ⟨w3.heap.size, 0, none⟩ = some (.slice (some ⟨go, 0, none⟩) cs.length cs.length) ∧ W.cell? ⟨w3.heap.size, 1, none⟩ = some (.slice ra yn rc) ∧ InG wdC W w6.heap.size (.slice (some ⟨go, 0, none⟩) X0.length cs.length) X0 ∧ InG wdC W w6.heap.size (.slice ra Y0.length rc) Y0) := fun W k => by
      obtain ⟨e1, o1, o2, l1, l2, _⟩ := HO4.out
      have b4 : Below w4.heap.size w4 W := HU.out.2.2.trans (k.mono hM)
      have e2 : W.heap[w3.heap.size]? = some (.cells #[(.slice (some ⟨go, 0, none⟩) cs.length cs.length), .slice ra yn rc] 51) := (b4.block _ HZ4.out).trans e1
      refine ⟨HB4.out.trans (b4.mono (by have := HB4.out.size; have := HZ0.out.2; omega)), (cell?_heap e2 0).trans rfl, (cell?_heap e2 1).trans rfl, ?_, ?_⟩
      · rw [l1]; exact inG_up (o1.in.later b4) hM
      · rw [l2]; exact inG_up (o2.in.later b4) hM
    have HFY : Hid (∀ (t : Nat) (y : OuD), ys[t]? = some y → y.X.length = cs.length ∧ y.Y.length = yn ∧ (∃ u, EndS cs ts u ∧ OutOf cs ts u y.X y.Y) ∧ ∀ W, Below w6.heap.size w6 W → W.cell? ⟨ba, oa + t * 2, none⟩ = some (.slice y.a1 y.X.length y.c1) ∧ W.cell? ⟨ba, oa + t * 2 + 1, none⟩ = some (.slice y.a2 y.Y.length y.c2) ∧ InG wdC W w6.heap.size (.slice y.a1 y.X.length y.c1) y.X ∧ InG wdC W w6.heap.size (.slice y.a2 y.Y.length y.c2) y.Y) := fun t y hy => by
      have ht := (List.getElem?_eq_some_iff.1 hy).1
      have hyt : ys[t] = y := by rw [List.getElem?_eq_getElem ht] at hy; injection hy
      have hym := List.mem_of_getElem? hy
      obtain ⟨u, h1, h2, h3⟩ := HU.out.1.e y hym
      refine ⟨by rw [h2, wlL_len], by rw [h3, regsL_len]; exact HO4.out.2.2.2.2.2.symm, ⟨u, h1, h2, h3⟩, fun W k => ?_⟩
      obtain ⟨b, off, e, _, hc⟩ := InG.cell (cs := ouC) (n := 2) (fun _ => rfl) (HU.out.1.i.later k) t ht (by decide)
      injection e with e
      injection e with e1 e2
      subst e1 e2
      have c0 := hc 0 (by decide)
      have c1 := hc 1 (by decide)
      rw [hyt] at c0 c1
      have ho := HU.out.1.o y hym
      exact ⟨c0, c1, ho.o1.in.later k, ho.o2.in.later k⟩
    have HSM : Hid (∀ (W : World) (t : Nat) (y : OuD), ys[t]? = some y → Below w6.heap.size w6 W → Calls Tryz.prog 23 #[.agg #[.slice y.a1 cs.length y.c1, .slice y.a2 yn y.c2], .agg #[(.slice (some ⟨go, 0, none⟩) cs.length cs.length), .slice ra yn rc]] W fun e w' => e = .returned (.bool (decide (y.X = X0) && decide (y.Y = Y0))) ∧ Keeps (fun _ => False) W w') := fun W t y hy k => by
      obtain ⟨l1, l2, _, hf⟩ := HFY.out t y hy
      obtain ⟨_, _, i1, i2⟩ := hf W k
      obtain ⟨_, _, _, i3, i4⟩ := HFA.out W k
      have := sameOx W w6.heap.size k.size y.a1 y.c1 (some ⟨go, 0, none⟩) cs.length y.X X0 y.a2 y.c2 ra rc y.Y Y0 i1 i3 i2 i4 (by omega) (by rw [HO4.out.2.2.2.1]; omega) (by rw [l2, HO4.out.2.2.2.2.2]; omega) (by rw [HYN.out, HO4.out.2.2.2.2.2]; omega)
      rw [l1, l2, HO4.out.2.2.2.1, HYN.out] at this
      exact this
    clear hM
    go_loopw [9, 11] (fun q c wr => ∃ t : Nat, c = .int .i64 (t : Int) ∧ q = .bool (anyT ys X0 Y0 t) ∧ t ≤ n ∧ Below w6.heap.size w6 wr) (fun _ c _ => n - (intOf c).toNat)
    case atStart => exact ⟨0, rfl, rfl, Nat.zero_le _, Below.refl _ _⟩
    case round =>
      rename World => wr
      obtain ⟨t, rfl, rfl, ht, hk⟩ := hrel
      have HK : Hid (Below w6.heap.size w6 wr) := hk
      have t0 : (0 : Int) ≤ (t : Int) := Int.natCast_nonneg _
      obtain ⟨q, hq⟩ : ∃ q, anyT ys X0 Y0 t = q := ⟨_, rfl⟩
      have HQ : Hid (anyT ys X0 Y0 t = q) := hq
      rw [hq]
      clear hq
      by_cases h5 : t < n
      · have t1 : (t : Int) < (n : Int) := by omega
        have hty : t < ys.length := by rw [HU.out.2.1]; exact h5
        obtain ⟨y, hy⟩ : ∃ y, ys[t]? = some y := ⟨_, List.getElem?_eq_getElem hty⟩
        have HY : Hid (ys[t]? = some y) := hy
        have hsu := anyT_succ ys X0 Y0 t hty
        have hyt : ys[t] = y := by rw [List.getElem?_eq_getElem hty] at hy; injection hy
        rw [hyt, HQ.out] at hsu
        obtain ⟨l1, l2, -, hf⟩ := HFY.out t y hy
        rw [l1, l2] at hf
        have HFW : Hid (∀ W, Below w6.heap.size w6 W → W.cell? ⟨ba, oa + t * 2, none⟩ = some (.slice y.a1 cs.length y.c1) ∧ W.cell? ⟨ba, oa + t * 2 + 1, none⟩ = some (.slice y.a2 yn y.c2) ∧ W.cell? ⟨w3.heap.size, 0, none⟩ = some (.slice (some ⟨go, 0, none⟩) cs.length cs.length) ∧ W.cell? ⟨w3.heap.size, 1, none⟩ = some (.slice ra yn rc)) := fun W k => ⟨(hf W k).1, (hf W k).2.1, (HFA.out W k).2.1, (HFA.out W k).2.2.1⟩
        obtain ⟨b, hbb⟩ : ∃ b, (decide (y.X = X0) && decide (y.Y = Y0)) = b := ⟨_, rfl⟩
        rw [hbb] at hsu
        have HSU : Hid (anyT ys X0 Y0 (t + 1) = (q || b)) := hsu
        have hsm := HSM.out wr.drew t y hy hk.drew
        rw [hbb] at hsm
        have HS1 : Hid (∀ _ : Unit, _) := fun _ => hsm
        have sx := HFW.out wr.drew hk.drew
        clear hk hy hsu hyt hty l1 l2 hf hbb hsm
        go_wp2_with fail
        (refine wp_region_held_drew (S := (fun X' => X'.cell? ⟨ba, oa + t * 2, none⟩ = some (.slice y.a1 cs.length y.c1) ∧ X'.cell? ⟨ba, oa + t * 2 + 1, none⟩ = some (.slice y.a2 yn y.c2) ∧ X'.cell? ⟨w3.heap.size, 0, none⟩ = some (.slice (some ⟨go, 0, none⟩) cs.length cs.length) ∧ X'.cell? ⟨w3.heap.size, 1, none⟩ = some (.slice ra yn rc))) (by kernel_rfl) sx (fun hHeld => ?_); simp only [List.size_toArray, List.length_cons, List.length_nil, Nat.reduceAdd, Array.replicate_succ, Array.replicate_zero, List.push_toArray, List.append_toArray, List.nil_append, List.cons_append])
        refine rgT 0 (h := ?_)
        refine rgT 1 (h := ?_)
        refine rgT 2 (h := ?_)
        refine rgT 3 (h := ?_)
        refine rgT 4 (h := ?_)
        (refine rgS 5 (h := fun K hK => ?_); go_simp)
        refine (HS1.out ()).mono ?_
        rintro e w7 ⟨rfl, k7⟩
        have HK7 : Hid (Below w6.heap.size w6 w7) := HK.out.drew.trans (k7.below HK.out.drew.size (fun _ _ e => e))
        (refine hK.out _ _ (HFW.out w7 HK7.out) (fun hHeld => ?_); clear hK K; try simp only [Act.put, List.setIfInBounds_toArray, List.set_cons_zero, List.set_cons_succ])
        refine wpAnyH_done (by kernel_rfl) ?_ _
        clear hHeld sx k7 HS1
        clear hHeld
        have hea0 : ¬ ea = 0 := by omega
        have HSL : Hid (∀ W, Below w6.heap.size w6 W → W.cell? ⟨w.heap.size, 0, none⟩ = some (.slice ca cs.length cc) ∧ W.cell? ⟨w.heap.size, 1, none⟩ = some (.slice ta ts.length tc) ∧ W.cell? ⟨ba, oa + t * 2, none⟩ = some (.slice y.a1 cs.length y.c1) ∧ W.cell? ⟨ba, oa + t * 2 + 1, none⟩ = some (.slice y.a2 yn y.c2)) := fun W k => by
          obtain ⟨_, c0, c1, _⟩ := HCP.out W (HFA.out W k).1
          exact ⟨c0, c1, (HFW.out W k).1, (HFW.out W k).2.1⟩
        have HWI : Hid (∀ (W : World) (C' : Nat) (ca' : Option Addr) (cc' : Nat) (ta' : Option Addr) (tc' : Nat) (tv' : Nat → Value), LitG W C' ca' cc' ta' tc' tv' cs ts → Below w6.heap.size w6 W → C' = W.heap.size → Calls Tryz.prog 21 #[.agg (litC ca' cs.length cc' ta' ts.length tc'), .agg #[.slice y.a1 cs.length y.c1, .slice y.a2 yn y.c2]] W fun e w' => ∃ st, e = .returned (.tuple #[.string st, .int .i64 0]) ∧ Below W.heap.size W w' ∧ st.size ≤ 1048576 ∧ wlL (endA cs ts (dL st.data.toList)).2.wo cs.length = y.X ∧ regsL (endA cs ts (dL st.data.toList)).2.rg ts.length = y.Y) := fun W C' ca' cc' ta' tc' tv' hg hb hC' => by
          obtain ⟨l1, l2, ⟨u, hu1, hu2⟩, hf⟩ := HFY.out t y HY.out
          obtain ⟨_, _, i1, i2⟩ := hf W hb
          have := witness_any W C' ca' cc' ta' tc' tv' cs ts hg (by omega) HSD.out HCI.out.1 HCI.out.2.1 y.a1 y.c1 y.a2 y.c2 y.X y.Y (inG_up i1 (by rw [hC']; exact hb.size)) (inG_up i2 (by rw [hC']; exact hb.size))
          rw [l1, l2] at this
          refine this.mono ?_
          rintro e w' ⟨st, er, rfl, hbb, hw⟩
          rcases hw with ⟨rfl, hsz, u', ws, h1, h2, h3, h4⟩ | ⟨_, _, hno⟩
          · refine ⟨st, rfl, hbb, by omega, ?_⟩
            rw [h4]
            exact word_out HSD.out h1 h2 h3
          · exact absurd hu2 (hno u hu1)
        have HSY : Hid (∀ (W : World), Below w6.heap.size w6 W → ∀ (Bq : Nat) (p1 : Option Addr) (pc1 : Nat) (p2 : Option Addr) (pc2 : Nat), OwW W Bq (.slice p1 cs.length pc1) y.X → OwW W Bq (.slice p2 yn pc2) y.Y → Calls Tryz.prog 23 #[.agg #[.slice p1 cs.length pc1, .slice p2 yn pc2], .agg #[.slice y.a1 cs.length y.c1, .slice y.a2 yn y.c2]] W fun e w' => e = .returned (.bool true) ∧ Keeps (fun _ => False) W w') := fun W hb Bq p1 pc1 p2 pc2 o1 o2 => by
          obtain ⟨l1, l2, _, hf⟩ := HFY.out t y HY.out
          obtain ⟨_, _, i1, i2⟩ := hf W hb
          have := sameO W W.heap.size (Nat.le_refl _) p1 pc1 y.a1 y.c1 y.X p2 pc2 y.a2 y.c2 y.Y (by rw [l1]; exact o1.in) (inG_up i1 hb.size) (by omega) (by rw [l2]; exact o2.in) (inG_up i2 hb.size) (by rw [l2, HO4.out.2.2.2.2.2]; omega)
          rw [l1, l2] at this
          exact this
        cases b
        · skip
          obtain ⟨rm, hrm⟩ : ∃ rm, (t : Int) % ea = rm := ⟨_, rfl⟩
          by_cases hz : rm = 0
          · subst hz
            go_wp2_with fail
            clear hrm
            have sl := HSL.out w7.drew HK7.out.drew
            (refine wp_region_held_drew (S := (fun X' => X'.cell? ⟨w.heap.size, 0, none⟩ = some (.slice ca cs.length cc) ∧ X'.cell? ⟨w.heap.size, 1, none⟩ = some (.slice ta ts.length tc) ∧ X'.cell? ⟨ba, oa + t * 2, none⟩ = some (.slice y.a1 cs.length y.c1) ∧ X'.cell? ⟨ba, oa + t * 2 + 1, none⟩ = some (.slice y.a2 yn y.c2))) (by kernel_rfl) sl (fun hHeld => ?_); simp only [List.size_toArray, List.length_cons, List.length_nil, Nat.reduceAdd, Array.replicate_succ, Array.replicate_zero, List.push_toArray, List.append_toArray, List.nil_append, List.cons_append])
            refine rgT 0 (h := ?_)
            refine rgT 2 (h := ?_)
            refine rgT 3 (h := ?_)
            refine rgT 4 (h := ?_)
            refine rgT 5 (h := ?_)
            (refine rgS 1 (h := fun K hK => ?_); go_simp)
            refine (HCP.out w7.drew (HFA.out _ HK7.out.drew).1).2.2.2.mono ?_
            rintro e w8 ⟨ca3, cc3, ta3, tc3, tv3, rfl, g8, b8⟩
            have HK8 : Hid (Below w6.heap.size w6 w8) := HK7.out.drew.trans (b8.mono HK7.out.drew.size)
            have HG8 : Hid (LitG w8 w8.heap.size ca3 cc3 ta3 tc3 tv3 cs ts) := g8
            clear g8 b8 sl
            (refine hK.out _ _ (HSL.out w8 HK8.out) (fun hHeld => ?_); clear hK K; try simp only [Act.put, List.setIfInBounds_toArray, List.set_cons_zero, List.set_cons_succ])
            (refine rgS 6 (h := fun K hK => ?_); go_simp)
            refine (HWI.out w8 w8.heap.size ca3 cc3 ta3 tc3 tv3 HG8.out HK8.out rfl).mono ?_
            rintro e w9 ⟨st, rfl, hb9, hst⟩
            have HK9 : Hid (Below w6.heap.size w6 w9) := HK8.out.trans (hb9.mono HK8.out.size)
            have HST : Hid (st.size ≤ 1048576 ∧ wlL (endA cs ts (dL st.data.toList)).2.wo cs.length = y.X ∧ regsL (endA cs ts (dL st.data.toList)).2.rg ts.length = y.Y) := hst
            clear hb9 hst HG8
            (refine hK.out _ _ (HSL.out w9 HK9.out) (fun hHeld => ?_); clear hK K; try simp only [Act.put, List.setIfInBounds_toArray, List.set_cons_zero, List.set_cons_succ])
            refine rgT 7 (h := ?_)
            refine rgT 8 (h := ?_)
            refine rgT 9 (h := ?_)
            refine rgT 10 (h := ?_)
            refine rgT 11 (h := ?_)
            refine wpAnyH_done (by kernel_rfl) ?_ _
            clear hHeld
            clear hHeld
            clear hHeld
            have sl := HSL.out w9 HK9.out
            have q0 := sl.1
            have q1 := sl.2.1
            clear sl
            go_wp2_with fail
            refine (HCP.out w9 (HFA.out _ HK9.out).1).2.2.2.mono ?_
            rintro e w10 ⟨ca4, cc4, ta4, tc4, tv4, rfl, g10, b10⟩
            have HK10 : Hid (Below w6.heap.size w6 w10) := HK9.out.trans (b10.mono HK9.out.size)
            have hrn := runG w10 w10.heap.size ca4 cc4 ta4 tc4 tv4 cs ts g10 (Nat.le_refl _) HSD.out HCI.out.1 HCI.out.2.1 st HST.out.1
            rw [HST.out.2.1, HST.out.2.2] at hrn
            have HRN : Hid (∀ _ : Unit, _) := fun _ => hrn
            clear g10 b10 q0 q1 hrn
            go_wp2_with fail
            refine (HRN.out ()).mono ?_
            rintro e w11 ⟨g2, rv2, rfl, o1, o2, b11⟩
            obtain ⟨ra2, rc2, hrv2⟩ := o2.form
            subst hrv2
            have hyl2 := (HFY.out t y HY.out).2.1
            rw [hyl2] at o2 ⊢
            have HO11 : Hid (OwW w11 w10.heap.size (.slice (some ⟨g2, 0, none⟩) cs.length cs.length) y.X ∧ OwW w11 w10.heap.size (.slice ra2 yn rc2) y.Y) := ⟨o1.down (by omega), o2.down (by have := (World.ownsRow.lt o1 g2 rfl).1; omega)⟩
            have HK11 : Hid (Below w6.heap.size w6 w11) := HK10.out.trans (b11.mono HK10.out.size)
            clear o1 o2 b11 HRN hyl2
            have HK12 : Hid (Below w6.heap.size w6 (w11.alloc (.cells #[.slice (some ⟨g2, 0, none⟩) cs.length cs.length, .slice ra2 yn rc2] 51))) := HK11.out.alloc HK11.out.size _
            have HP12 : Hid ((w11.alloc (.cells #[.slice (some ⟨g2, 0, none⟩) cs.length cs.length, .slice ra2 yn rc2] 51)).heap[w11.heap.size]? = some (.cells #[.slice (some ⟨g2, 0, none⟩) cs.length cs.length, .slice ra2 yn rc2] 51) ∧ OwW (w11.alloc (.cells #[.slice (some ⟨g2, 0, none⟩) cs.length cs.length, .slice ra2 yn rc2] 51)) w10.heap.size (.slice (some ⟨g2, 0, none⟩) cs.length cs.length) y.X ∧ OwW (w11.alloc (.cells #[.slice (some ⟨g2, 0, none⟩) cs.length cs.length, .slice ra2 yn rc2] 51)) w10.heap.size (.slice ra2 yn rc2) y.Y) := ⟨heap_alloc_last _ _ _ rfl, World.ownsRow.alloc HO11.out.1 _, World.ownsRow.alloc HO11.out.2 _⟩
            go_wp2_with fail
            generalize w11.alloc (.cells #[.slice (some ⟨g2, 0, none⟩) cs.length cs.length, .slice ra2 yn rc2] 51) = w12 at *
            have HS17 : Hid (∀ W, Keeps (fun _ => False) w12 W → W.cell? ⟨w11.heap.size, 0, none⟩ = some (.slice (some ⟨g2, 0, none⟩) cs.length cs.length) ∧ W.cell? ⟨w11.heap.size, 1, none⟩ = some (.slice ra2 yn rc2) ∧ W.cell? ⟨ba, oa + t * 2, none⟩ = some (.slice y.a1 cs.length y.c1) ∧ W.cell? ⟨ba, oa + t * 2 + 1, none⟩ = some (.slice y.a2 yn y.c2)) := fun W k => by
              have e1 := (k.block _ (Array.getElem?_eq_some_iff.1 HP12.out.1).1 (fun e => e)).trans HP12.out.1
              have hb := HK12.out.trans (k.below HK12.out.size (fun _ _ e => e))
              exact ⟨(cell?_heap e1 0).trans rfl, (cell?_heap e1 1).trans rfl, (HFW.out W hb).1, (HFW.out W hb).2.1⟩
            have hsm := HSY.out w12.drew (HK12.out.drew) w10.heap.size (some ⟨g2, 0, none⟩) cs.length ra2 rc2 (World.ownsRow.drew HP12.out.2.1) (World.ownsRow.drew HP12.out.2.2)
            have HS2 : Hid (∀ _ : Unit, _) := fun _ => hsm
            have s17 := HS17.out w12.drew (Keeps.refl _ _).drew
            clear hsm
            (refine wp_region_held_drew (S := (fun X' => X'.cell? ⟨w11.heap.size, 0, none⟩ = some (.slice (some ⟨g2, 0, none⟩) cs.length cs.length) ∧ X'.cell? ⟨w11.heap.size, 1, none⟩ = some (.slice ra2 yn rc2) ∧ X'.cell? ⟨ba, oa + t * 2, none⟩ = some (.slice y.a1 cs.length y.c1) ∧ X'.cell? ⟨ba, oa + t * 2 + 1, none⟩ = some (.slice y.a2 yn y.c2))) (by kernel_rfl) s17 (fun hHeld => ?_); simp only [List.size_toArray, List.length_cons, List.length_nil, Nat.reduceAdd, Array.replicate_succ, Array.replicate_zero, List.push_toArray, List.append_toArray, List.nil_append, List.cons_append])
            refine rgT 0 (h := ?_)
            refine rgT 1 (h := ?_)
            refine rgT 2 (h := ?_)
            refine rgT 3 (h := ?_)
            refine rgT 4 (h := ?_)
            refine rgT 5 (h := ?_)
            refine rgT 6 (h := ?_)
            refine rgT 7 (h := ?_)
            refine rgT 8 (h := ?_)
            refine rgT 9 (h := ?_)
            refine rgT 10 (h := ?_)
            refine rgT 11 (h := ?_)
            (refine rgS 12 (h := fun K hK => ?_); go_simp)
            refine (HS2.out ()).mono ?_
            rintro e w13 ⟨rfl, k13⟩
            have HK13 : Hid (Below w6.heap.size w6 w13) := HK12.out.drew.trans (k13.below HK12.out.drew.size (fun _ _ e => e))
            (refine hK.out _ _ (HS17.out w13 ((Keeps.refl _ _).drew.trans k13)) (fun hHeld => ?_); clear hK K; try simp only [Act.put, List.setIfInBounds_toArray, List.set_cons_zero, List.set_cons_succ])
            refine rgT 13 (h := ?_)
            refine rgT 14 (h := ?_)
            refine wpAnyH_done (by kernel_rfl) ?_ _
            clear hHeld s17 k13 HS2
            clear hHeld
            go_wp2
            go_roundw
            case rel => exact ⟨t + 1, by go_num, by rw [HSU.out]; simp, by omega, HK13.out⟩
            case measure => simp [intOf]; omega
          · go_wp2
            go_roundw
            case rel => exact ⟨t + 1, by go_num, by rw [HSU.out]; simp, by omega, HK7.out⟩
            case measure => simp [intOf]; omega
        · skip
          obtain ⟨rm, hrm⟩ : ∃ rm, (t : Int) % ea = rm := ⟨_, rfl⟩
          by_cases hz : rm = 0
          · subst hz
            go_wp2_with fail
            clear hrm
            have sl := HSL.out w7.drew HK7.out.drew
            (refine wp_region_held_drew (S := (fun X' => X'.cell? ⟨w.heap.size, 0, none⟩ = some (.slice ca cs.length cc) ∧ X'.cell? ⟨w.heap.size, 1, none⟩ = some (.slice ta ts.length tc) ∧ X'.cell? ⟨ba, oa + t * 2, none⟩ = some (.slice y.a1 cs.length y.c1) ∧ X'.cell? ⟨ba, oa + t * 2 + 1, none⟩ = some (.slice y.a2 yn y.c2))) (by kernel_rfl) sl (fun hHeld => ?_); simp only [List.size_toArray, List.length_cons, List.length_nil, Nat.reduceAdd, Array.replicate_succ, Array.replicate_zero, List.push_toArray, List.append_toArray, List.nil_append, List.cons_append])
            refine rgT 0 (h := ?_)
            refine rgT 2 (h := ?_)
            refine rgT 3 (h := ?_)
            refine rgT 4 (h := ?_)
            refine rgT 5 (h := ?_)
            (refine rgS 1 (h := fun K hK => ?_); go_simp)
            refine (HCP.out w7.drew (HFA.out _ HK7.out.drew).1).2.2.2.mono ?_
            rintro e w8 ⟨ca3, cc3, ta3, tc3, tv3, rfl, g8, b8⟩
            have HK8 : Hid (Below w6.heap.size w6 w8) := HK7.out.drew.trans (b8.mono HK7.out.drew.size)
            have HG8 : Hid (LitG w8 w8.heap.size ca3 cc3 ta3 tc3 tv3 cs ts) := g8
            clear g8 b8 sl
            (refine hK.out _ _ (HSL.out w8 HK8.out) (fun hHeld => ?_); clear hK K; try simp only [Act.put, List.setIfInBounds_toArray, List.set_cons_zero, List.set_cons_succ])
            (refine rgS 6 (h := fun K hK => ?_); go_simp)
            refine (HWI.out w8 w8.heap.size ca3 cc3 ta3 tc3 tv3 HG8.out HK8.out rfl).mono ?_
            rintro e w9 ⟨st, rfl, hb9, hst⟩
            have HK9 : Hid (Below w6.heap.size w6 w9) := HK8.out.trans (hb9.mono HK8.out.size)
            have HST : Hid (st.size ≤ 1048576 ∧ wlL (endA cs ts (dL st.data.toList)).2.wo cs.length = y.X ∧ regsL (endA cs ts (dL st.data.toList)).2.rg ts.length = y.Y) := hst
            clear hb9 hst HG8
            (refine hK.out _ _ (HSL.out w9 HK9.out) (fun hHeld => ?_); clear hK K; try simp only [Act.put, List.setIfInBounds_toArray, List.set_cons_zero, List.set_cons_succ])
            refine rgT 7 (h := ?_)
            refine rgT 8 (h := ?_)
            refine rgT 9 (h := ?_)
            refine rgT 10 (h := ?_)
            refine rgT 11 (h := ?_)
            refine wpAnyH_done (by kernel_rfl) ?_ _
            clear hHeld
            clear hHeld
            clear hHeld
            have sl := HSL.out w9 HK9.out
            have q0 := sl.1
            have q1 := sl.2.1
            clear sl
            go_wp2_with fail
            refine (HCP.out w9 (HFA.out _ HK9.out).1).2.2.2.mono ?_
            rintro e w10 ⟨ca4, cc4, ta4, tc4, tv4, rfl, g10, b10⟩
            have HK10 : Hid (Below w6.heap.size w6 w10) := HK9.out.trans (b10.mono HK9.out.size)
            have hrn := runG w10 w10.heap.size ca4 cc4 ta4 tc4 tv4 cs ts g10 (Nat.le_refl _) HSD.out HCI.out.1 HCI.out.2.1 st HST.out.1
            rw [HST.out.2.1, HST.out.2.2] at hrn
            have HRN : Hid (∀ _ : Unit, _) := fun _ => hrn
            clear g10 b10 q0 q1 hrn
            go_wp2_with fail
            refine (HRN.out ()).mono ?_
            rintro e w11 ⟨g2, rv2, rfl, o1, o2, b11⟩
            obtain ⟨ra2, rc2, hrv2⟩ := o2.form
            subst hrv2
            have hyl2 := (HFY.out t y HY.out).2.1
            rw [hyl2] at o2 ⊢
            have HO11 : Hid (OwW w11 w10.heap.size (.slice (some ⟨g2, 0, none⟩) cs.length cs.length) y.X ∧ OwW w11 w10.heap.size (.slice ra2 yn rc2) y.Y) := ⟨o1.down (by omega), o2.down (by have := (World.ownsRow.lt o1 g2 rfl).1; omega)⟩
            have HK11 : Hid (Below w6.heap.size w6 w11) := HK10.out.trans (b11.mono HK10.out.size)
            clear o1 o2 b11 HRN hyl2
            have HK12 : Hid (Below w6.heap.size w6 (w11.alloc (.cells #[.slice (some ⟨g2, 0, none⟩) cs.length cs.length, .slice ra2 yn rc2] 51))) := HK11.out.alloc HK11.out.size _
            have HP12 : Hid ((w11.alloc (.cells #[.slice (some ⟨g2, 0, none⟩) cs.length cs.length, .slice ra2 yn rc2] 51)).heap[w11.heap.size]? = some (.cells #[.slice (some ⟨g2, 0, none⟩) cs.length cs.length, .slice ra2 yn rc2] 51) ∧ OwW (w11.alloc (.cells #[.slice (some ⟨g2, 0, none⟩) cs.length cs.length, .slice ra2 yn rc2] 51)) w10.heap.size (.slice (some ⟨g2, 0, none⟩) cs.length cs.length) y.X ∧ OwW (w11.alloc (.cells #[.slice (some ⟨g2, 0, none⟩) cs.length cs.length, .slice ra2 yn rc2] 51)) w10.heap.size (.slice ra2 yn rc2) y.Y) := ⟨heap_alloc_last _ _ _ rfl, World.ownsRow.alloc HO11.out.1 _, World.ownsRow.alloc HO11.out.2 _⟩
            go_wp2_with fail
            generalize w11.alloc (.cells #[.slice (some ⟨g2, 0, none⟩) cs.length cs.length, .slice ra2 yn rc2] 51) = w12 at *
            have HS17 : Hid (∀ W, Keeps (fun _ => False) w12 W → W.cell? ⟨w11.heap.size, 0, none⟩ = some (.slice (some ⟨g2, 0, none⟩) cs.length cs.length) ∧ W.cell? ⟨w11.heap.size, 1, none⟩ = some (.slice ra2 yn rc2) ∧ W.cell? ⟨ba, oa + t * 2, none⟩ = some (.slice y.a1 cs.length y.c1) ∧ W.cell? ⟨ba, oa + t * 2 + 1, none⟩ = some (.slice y.a2 yn y.c2)) := fun W k => by
              have e1 := (k.block _ (Array.getElem?_eq_some_iff.1 HP12.out.1).1 (fun e => e)).trans HP12.out.1
              have hb := HK12.out.trans (k.below HK12.out.size (fun _ _ e => e))
              exact ⟨(cell?_heap e1 0).trans rfl, (cell?_heap e1 1).trans rfl, (HFW.out W hb).1, (HFW.out W hb).2.1⟩
            have hsm := HSY.out w12.drew (HK12.out.drew) w10.heap.size (some ⟨g2, 0, none⟩) cs.length ra2 rc2 (World.ownsRow.drew HP12.out.2.1) (World.ownsRow.drew HP12.out.2.2)
            have HS2 : Hid (∀ _ : Unit, _) := fun _ => hsm
            have s17 := HS17.out w12.drew (Keeps.refl _ _).drew
            clear hsm
            (refine wp_region_held_drew (S := (fun X' => X'.cell? ⟨w11.heap.size, 0, none⟩ = some (.slice (some ⟨g2, 0, none⟩) cs.length cs.length) ∧ X'.cell? ⟨w11.heap.size, 1, none⟩ = some (.slice ra2 yn rc2) ∧ X'.cell? ⟨ba, oa + t * 2, none⟩ = some (.slice y.a1 cs.length y.c1) ∧ X'.cell? ⟨ba, oa + t * 2 + 1, none⟩ = some (.slice y.a2 yn y.c2))) (by kernel_rfl) s17 (fun hHeld => ?_); simp only [List.size_toArray, List.length_cons, List.length_nil, Nat.reduceAdd, Array.replicate_succ, Array.replicate_zero, List.push_toArray, List.append_toArray, List.nil_append, List.cons_append])
            refine rgT 0 (h := ?_)
            refine rgT 1 (h := ?_)
            refine rgT 2 (h := ?_)
            refine rgT 3 (h := ?_)
            refine rgT 4 (h := ?_)
            refine rgT 5 (h := ?_)
            refine rgT 6 (h := ?_)
            refine rgT 7 (h := ?_)
            refine rgT 8 (h := ?_)
            refine rgT 9 (h := ?_)
            refine rgT 10 (h := ?_)
            refine rgT 11 (h := ?_)
            (refine rgS 12 (h := fun K hK => ?_); go_simp)
            refine (HS2.out ()).mono ?_
            rintro e w13 ⟨rfl, k13⟩
            have HK13 : Hid (Below w6.heap.size w6 w13) := HK12.out.drew.trans (k13.below HK12.out.drew.size (fun _ _ e => e))
            (refine hK.out _ _ (HS17.out w13 ((Keeps.refl _ _).drew.trans k13)) (fun hHeld => ?_); clear hK K; try simp only [Act.put, List.setIfInBounds_toArray, List.set_cons_zero, List.set_cons_succ])
            refine rgT 13 (h := ?_)
            refine rgT 14 (h := ?_)
            refine wpAnyH_done (by kernel_rfl) ?_ _
            clear hHeld s17 k13 HS2
            clear hHeld
            go_wp2
            go_roundw
            case rel => exact ⟨t + 1, by go_num, by rw [HSU.out]; simp, by omega, HK13.out⟩
            case measure => simp [intOf]; omega
          · go_wp2
            go_roundw
            case rel => exact ⟨t + 1, by go_num, by rw [HSU.out]; simp, by omega, HK7.out⟩
            case measure => simp [intOf]; omega
      · obtain rfl : t = n := by omega
        have hall : q = true := by
          rw [← HQ.out]
          obtain ⟨u, h1, h2⟩ := HEO.out
          obtain ⟨y, hy, h3, h4⟩ := HU.out.1.a u h1
          rw [← HU.out.2.1]
          exact anyT_all ys X0 Y0 ⟨y, hy, by rw [h3, h2.1], by rw [h4, h2.2]⟩
        have HZ : Hid (Below w.heap.size w wr) := (HLIT.out wr (HFA.out wr hk).1).2.2
        subst hall
        clear hk
        go_wp2
        go_ret
        exact ⟨rfl, HZ.out⟩
end Go.Proofs.YtdpebhdjcgiboaaGreat
