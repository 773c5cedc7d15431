import Derived.Test.YteekompojgbkhaaGreatKBmO
import Derived.Deep.DeepCutAuto
namespace Go.Proofs.YteekompojgbkhaaGreat
set_option linter.unusedSimpArgs false
open Go.ChangeShapes Go.WideShapes Go.ChangeAt Go.RowKit Go.MuLone Go.RwLone
set_option linter.unusedVariables false
set_option maxRecDepth 100000
set_option maxHeartbeats 6400000
section
variable {w w' : World} {B bb : Nat} {l : BkL} {s : BkS}
def BkL.keep (l : BkL) (g : Nat) (c : Array Value) (t : TypeId) : BkL := { l with pk := fun x => if x = g then some (c, t) else l.pk x }
/-- One block more is kept. -/
theorem BkM.keepP (h : BkM w B bb l s) (g : Nat) (c : Array Value) (t : TypeId) (hg : w.heap[g]? = some (.cells c t)) (h0 : s.T g = 0) (hB : B ≤ g) : BkM w B bb (l.keep g c t) { s with T := updN s.T g 411 } := by
  have b := h.tag g 411 h0 hB (Array.getElem?_eq_some_iff.1 hg).1
  refine ⟨b.ch, b.b, b.i, b.r, b.k, b.z, b.v, b.a, b.m, b.t1, b.t2, b.t3, b.t4, b.t5, b.t6, b.t7, b.t8, b.t9, b.tl, fun x d u e => ?_, fun x d u e => ?_⟩
  · have e : (if x = g then some (c, t) else l.pk x) = some (d, u) := e
    by_cases ex : x = g
    · rw [if_pos ex] at e
      injection e with e
      injection e with e1 e2
      rw [ex, ← e1, ← e2]
      exact hg
    · rw [if_neg ex] at e
      exact h.pp x d u e
  · have e : (if x = g then some (c, t) else l.pk x) = some (d, u) := e
    by_cases ex : x = g
    · rw [ex]
      exact updN_at _ _ _
    · rw [if_neg ex] at e
      exact b.tp x d u e
theorem BkM.lessP {g : Nat} {c : Array Value} {t : TypeId} (h : BkM w B bb (l.keep g c t) s) (hg : l.pk g = none) : BkM w B bb l s := by
  refine ⟨h.ch, h.b, h.i, h.r, h.k, h.z, h.v, h.a, h.m, h.t1, h.t2, h.t3, h.t4, h.t5, h.t6, h.t7, h.t8, h.t9, h.tl, fun x d u e => ?_, fun x d u e => ?_⟩
  · exact h.pp x d u (by show (if x = g then _ else l.pk x) = _; rw [if_neg (fun ex => by rw [ex, hg] at e; cases e)]; exact e)
  · exact h.tp x d u (by show (if x = g then _ else l.pk x) = _; rw [if_neg (fun ex => by rw [ex, hg] at e; cases e)]; exact e)
theorem BkM.kept {g : Nat} {c : Array Value} {t : TypeId} (h : BkM w B bb (l.keep g c t) s) : w.heap[g]? = some (.cells c t) := h.pp g c t (if_pos rfl)
theorem BkJ.T {G : Gb} (h : BkJ s G) (T' : Nat → Nat) : BkJ { s with T := T' } G := ⟨h.i, h.e1, h.e2, h.e3, h.e4, h.n0, h.n1, h.wd, h.mi, h.mr, h.mw, h.rw, h.un⟩
end
/-- What holds between the moves of a play. -/
def PlI (w0 : World) (B bb : Nat) (l : BkL) (N nb n : Nat) (W : World) : Prop := ∃ s G, BkM W B bb l s ∧ BkJ s G ∧ Below B w0 W ∧ s.N = N ∧ s.nb = nb ∧ s.all.length ≤ n
theorem PlI.drew {w0 W : World} {B bb N nb n : Nat} {l : BkL} (h : PlI w0 B bb l N nb n W) : PlI w0 B bb l N nb n W.drew := by
  obtain ⟨s, G, h1, h2, h3, h4⟩ := h
  exact ⟨s, G, h1.drew, h2, h3.drew, h4⟩
def mvC (m : Int × Int) : List Value := [.int .i64 m.1, .int .i64 m.2]
theorem keepC {w w' : World} {a : Addr} {v : Value} (k : Keeps (fun _ => False) w w') (h : w.cell? a = some v) : w'.cell? a = some v := by
  have hl : a.block < w.heap.size := by
    unfold World.cell? at h
    cases e : w.heap[a.block]? with
    | none => rw [e] at h; cases h
    | some o => exact (Array.getElem?_eq_some_iff.1 e).1
  exact (k.cell hl (fun e => e)).trans h
/-- A move of the plan is read. -/
theorem PlI.read {w0 W : World} {B bb N nb n : Nat} {l : BkL} (h : PlI w0 B bb l N nb n W) (kd a : Int) (W2 : World) (ka : Keeps (fun _ => False) W W2) (hg : W2.heap[W.heap.size]? = some (.cells #[.int .i64 kd, .int .i64 a] 40)) : PlI w0 B bb (l.keep W.heap.size #[.int .i64 kd, .int .i64 a] 40) N nb n W2 := by
  obtain ⟨s, G, h1, h2, h3, h4⟩ := h
  have b := (h1.noC ka).keepP W.heap.size _ _ hg (h1.new0 _ (Nat.le_refl _)) h1.hB
  exact ⟨_, G, b, h2.T _, h3.trans (ka.below h1.hB (fun _ _ e => e)), h4⟩
theorem wone (a c a' c' : Int) (h : (a' = wrap64 (a + 1) ∧ c' = c) ∨ (a' = a ∧ c' = wrap64 (c + 1))) : wrap64 (wrap64 (a' + c') - wrap64 (a + c)) = 1 := by
  rcases h with ⟨rfl, rfl⟩ | ⟨rfl, rfl⟩ <;> unfold wrap64 <;> omega
theorem bk_play (w : World) (B bb : Nat) (l : BkL) (N nb n0 : Nat) (pa pb : Int) (ao : Option Addr) (cap : Nat) (ms : List (Int × Int)) (looked counted : Bool) (h : PlI w B bb l N nb n0 w) (hin : InG mvC w B (.slice ao ms.length cap) ms) (hm : ms.length ≤ 524288) (hn : n0 + ms.length ≤ 1048575) (hbd : ∀ m ∈ ms, (-9223372036854775808 ≤ m.1 ∧ m.1 ≤ 9223372036854775807) ∧ (-9223372036854775808 ≤ m.2 ∧ m.2 ≤ 9223372036854775807)) (hpk : ∀ x, w.heap.size ≤ x → l.pk x = none) :
    Calls Tryz.prog 11 #[.pointer (some ⟨bb, 0, none⟩), .agg #[.int .i64 pa, .int .i64 pb, .slice ao ms.length cap], .bool looked, .bool counted] w fun e w' => e = .returned (.bool true) ∧ PlI w B bb l N nb (n0 + ms.length) w' := by
  have hB : B ≤ w.heap.size := by
    obtain ⟨s, G, h1, _⟩ := h
    exact h1.hB
  obtain ⟨pbk, hpb⟩ : ∃ x, w.heap.size = x := ⟨_, rfl⟩
  obtain ⟨l1, hl1⟩ : ∃ x, l.keep pbk #[.int .i64 pa, .int .i64 pb, .slice ao ms.length cap] 24 = x := ⟨_, rfl⟩
  have HP : Hid (PlI w B bb l1 N nb n0 (w.alloc (.cells #[.int .i64 pa, .int .i64 pb, .slice ao ms.length cap] 24))) := by
    obtain ⟨s, G, h1, h2, h3, h4⟩ := h
    have ka : Keeps (fun _ => False) w (w.alloc (.cells #[.int .i64 pa, .int .i64 pb, .slice ao ms.length cap] 24)) := (Keeps.refl _ _).alloc _
    have b := (h1.noC ka).keepP w.heap.size _ _ (heap_alloc_new w _) (h1.new0 _ (Nat.le_refl _)) hB
    rw [hpb, hl1] at b
    exact ⟨_, G, b, h2.T _, ka.below hB (fun _ _ e => e), h4⟩
  have HPL : Hid (∀ (W : World) (k : Nat), PlI w B bb l1 N nb k W → W.heap[pbk]? = some (.cells #[.int .i64 pa, .int .i64 pb, .slice ao ms.length cap] 24) ∧ pbk < W.heap.size ∧ Below B w W) := by
    rintro W k ⟨s, G, h1, h2, h3, h4⟩
    rw [← hl1] at h1
    have hk := h1.kept
    exact ⟨hk, (Array.getElem?_eq_some_iff.1 hk).1, h3⟩
  have HF : Hid (∀ (W : World) (k : Nat), PlI w B bb l1 N nb k W → PlI w B bb l N nb k W) := by
    rintro W k ⟨s, G, h1, h2, h3, h4⟩
    rw [← hl1] at h1
    exact ⟨s, G, h1.lessP (hpk _ (by omega)), h2, h3, h4⟩
  have HPK : Hid (∀ x, pbk < x → l1.pk x = none) := fun x hx => by
    rw [← hl1]
    show (if x = pbk then _ else l.pk x) = none
    rw [if_neg (by omega)]
    exact hpk x (by omega)
  obtain ⟨mn, hmn⟩ : ∃ x, ms.length = x := ⟨_, rfl⟩
  have HMN : Hid (ms.length = mn) := hmn
  have HMV : Hid (∀ (W : World), Below B w W → ∀ t (ht : t < ms.length), ∃ b off, ao = some ⟨b, off, none⟩ ∧ W.cell? ⟨b, off + t * 2, none⟩ = some (.int .i64 ms[t].1) ∧ W.cell? ⟨b, off + t * 2 + 1, none⟩ = some (.int .i64 ms[t].2)) := fun W hW t ht => by
    obtain ⟨b, off, e1, e2, e3⟩ := hin.cell (n := 2) (fun _ => rfl) t ht (by decide)
    refine ⟨b, off, e1, (hW.cell (p := ⟨b, off + t * 2, none⟩) e2).trans ((e3 0 (by decide)).trans rfl), (hW.cell (p := ⟨b, off + t * 2 + 1, none⟩) e2).trans ((e3 1 (by decide)).trans rfl)⟩
  have HBD : Hid (∀ t (ht : t < ms.length), (-9223372036854775808 ≤ ms[t].1 ∧ ms[t].1 ≤ 9223372036854775807) ∧ (-9223372036854775808 ≤ ms[t].2 ∧ ms[t].2 ≤ 9223372036854775807)) := fun t ht => hbd _ (List.getElem_mem ht)
  have HLE : Hid (∀ (W : World) (a b : Nat), a ≤ b → PlI w B bb l1 N nb a W → PlI w B bb l1 N nb b W) := by
    rintro W a b hab ⟨s, G, h1, h2, h3, h4, h5, h6⟩
    exact ⟨s, G, h1, h2, h3, h4, h5, by omega⟩
  rw [hmn] at hm hn HPL HP ⊢
  clear h hin hbd hpk hl1 hB hmn
  go_enter Tryz.func11, Tryz.ntmps11
  go_wp2_with fail
  go_loopw [9] (fun i wr => ∃ t : Nat, t ≤ mn ∧ i = .int .i64 (t : Int) ∧ Hid (PlI w B bb l1 N nb (n0 + t) wr)) (fun i _ => mn - (intOf i).toNat)
  case atStart => exact ⟨0, by omega, rfl, HP⟩
  case round =>
    obtain ⟨t, ht, rfl, hI⟩ := hrel
    clear HP
    obtain ⟨hbx, hbl, hbe⟩ := HPL.out wr _ hI.out
    have cp2 : wr.cell? ⟨pbk, 2, none⟩ = some (.slice ao mn cap) := (cell?_heap hbx 2).trans rfl
    by_cases h5 : t < mn
    · have t0 : (0 : Int) ≤ (t : Int) := Int.natCast_nonneg _
      have t1 : (t : Int) < (mn : Int) := by omega
      obtain ⟨mo, off, rfl, cm0, cm1⟩ := HMV.out wr hbe t (by rw [HMN.out]; exact h5)
      have hb2 := HBD.out t (by rw [HMN.out]; exact h5)
      obtain ⟨ka, hka⟩ : ∃ x, (ms[t]'(by rw [HMN.out]; exact h5)).1 = x := ⟨_, rfl⟩
      obtain ⟨aa, haa⟩ : ∃ x, (ms[t]'(by rw [HMN.out]; exact h5)).2 = x := ⟨_, rfl⟩
      rw [hka] at cm0 hb2
      rw [haa] at cm1 hb2
      obtain ⟨⟨ka0, ka1⟩, aa0, aa1⟩ := hb2
      have q0 := Int.emod_nonneg ka (show (6 : Int) ≠ 0 by decide)
      have q1 := Int.emod_lt_of_pos ka (show (0 : Int) < 6 by decide)
      obtain ⟨kd, hkd⟩ : ∃ x : Nat, ka % 6 = (x : Int) := ⟨(ka % 6).toNat, by omega⟩
      have hkd6 : kd < 6 := by omega
      have HM : Hid (∀ W, Calls Tryz.prog 14 #[.int .i64 ka, .int .i64 6] W fun e w' => e = .returned (.int .i64 (kd : Int)) ∧ w' = W) := fun W => by
        have := bk_mod ka 6 W ka0 ka1 (by omega) (by omega)
        rw [hkd] at this
        exact this
      have sx : wr.drew.cell? ⟨pbk, 2, none⟩ = some (.slice (some ⟨mo, off, none⟩) mn cap) ∧ wr.drew.cell? ⟨mo, off + t * 2, none⟩ = some (.int .i64 ka) ∧ wr.drew.cell? ⟨mo, off + t * 2 + 1, none⟩ = some (.int .i64 aa) := ⟨cp2, cm0, cm1⟩
      have HI : Hid (PlI w B bb l1 N nb (n0 + t) wr.drew) := hI.out.drew
      have HSZ : Hid (pbk < wr.drew.heap.size) := hbl
      clear hka haa hkd q0 q1 hI cm0 cm1 hbx hbl hbe
      obtain ⟨hb, hhb⟩ : ∃ x, wr.drew.heap.size = x := ⟨_, rfl⟩
      rw [hhb] at HSZ
      obtain ⟨l2, hl2⟩ : ∃ x, l1.keep hb #[.int .i64 (kd : Int), .int .i64 aa] 40 = x := ⟨_, rfl⟩
      have kz : Keeps (fun _ => False) wr.drew (wr.drew.alloc (.cells #[.int .i64 0, .int .i64 0] 40)) := (Keeps.refl _ _).alloc _
      have kr : Keeps (fun _ => False) wr.drew (((wr.drew.alloc (.cells #[.int .i64 0, .int .i64 0] 40)).setCell ⟨hb, 0, none⟩ (.int .i64 (kd : Int))).setCell ⟨hb, 1, none⟩ (.int .i64 aa)) := (kz.setCellNew (p := ⟨hb, 0, none⟩) (Nat.le_of_eq hhb) _).setCellNew (p := ⟨hb, 1, none⟩) (Nat.le_of_eq hhb) _
      have gz : (wr.drew.alloc (.cells #[.int .i64 0, .int .i64 0] 40)).heap[hb]? = some (.cells #[.int .i64 0, .int .i64 0] 40) := by rw [← hhb]; exact heap_alloc_new _ _
      have HRD : Hid (PlI w B bb l2 N nb (n0 + t) (((wr.drew.alloc (.cells #[.int .i64 0, .int .i64 0] 40)).setCell ⟨hb, 0, none⟩ (.int .i64 (kd : Int))).setCell ⟨hb, 1, none⟩ (.int .i64 aa))) := by
        have := HI.out.read (kd : Int) aa _ kr (by rw [hhb]; exact heapSetC (heapSetC gz 0 _) 1 _)
        rw [hhb, hl2] at this
        exact this
      have HAL : Hid ((wr.drew.alloc (.cells #[.int .i64 0, .int .i64 0] 40)).cell? ⟨pbk, 2, none⟩ = some (.slice (some ⟨mo, off, none⟩) mn cap) ∧ (wr.drew.alloc (.cells #[.int .i64 0, .int .i64 0] 40)).cell? ⟨mo, off + t * 2, none⟩ = some (.int .i64 ka) ∧ (wr.drew.alloc (.cells #[.int .i64 0, .int .i64 0] 40)).cell? ⟨mo, off + t * 2 + 1, none⟩ = some (.int .i64 aa)) := ⟨keepC kz sx.1, keepC kz sx.2.1, keepC kz sx.2.2⟩
      have HAL2 : Hid ((((wr.drew.alloc (.cells #[.int .i64 0, .int .i64 0] 40)).setCell ⟨hb, 0, none⟩ (.int .i64 (kd : Int))).setCell ⟨hb, 1, none⟩ (.int .i64 aa)).cell? ⟨pbk, 2, none⟩ = some (.slice (some ⟨mo, off, none⟩) mn cap) ∧ (((wr.drew.alloc (.cells #[.int .i64 0, .int .i64 0] 40)).setCell ⟨hb, 0, none⟩ (.int .i64 (kd : Int))).setCell ⟨hb, 1, none⟩ (.int .i64 aa)).cell? ⟨mo, off + t * 2, none⟩ = some (.int .i64 ka) ∧ (((wr.drew.alloc (.cells #[.int .i64 0, .int .i64 0] 40)).setCell ⟨hb, 0, none⟩ (.int .i64 (kd : Int))).setCell ⟨hb, 1, none⟩ (.int .i64 aa)).cell? ⟨mo, off + t * 2 + 1, none⟩ = some (.int .i64 aa)) := ⟨keepC kr sx.1, keepC kr sx.2.1, keepC kr sx.2.2⟩
      have HZ : Hid ((wr.drew.alloc (.cells #[.int .i64 0, .int .i64 0] 40)).cell? ⟨hb, 0, none⟩ = some (.int .i64 0) ∧ (wr.drew.alloc (.cells #[.int .i64 0, .int .i64 0] 40)).cell? ⟨hb, 1, none⟩ = some (.int .i64 0) ∧ (wr.drew.alloc (.cells #[.int .i64 0, .int .i64 0] 40)).frozen? ⟨hb, 0, none⟩ = false ∧ (wr.drew.alloc (.cells #[.int .i64 0, .int .i64 0] 40)).frozen? ⟨hb, 1, none⟩ = false) := ⟨(cell?_heap gz 0).trans rfl, (cell?_heap gz 1).trans rfl, frozen?_heap gz 0, frozen?_heap gz 1⟩
      clear kz kr gz
      have HHB : Hid (wr.drew.heap.size = hb) := hhb
      have HK3 : Hid (∀ (W : World) (s : BkS), BkM W B bb l2 s → W.heap[hb]? = some (.cells #[.int .i64 (kd : Int), .int .i64 aa] 40)) := by
        intro W s h1
        rw [← hl2] at h1
        exact h1.kept
      have HK2 : Hid (∀ (W : World) (k : Nat), PlI w B bb l2 N nb k W → W.heap[hb]? = some (.cells #[.int .i64 (kd : Int), .int .i64 aa] 40)) := by
        rintro W k ⟨s, G, h1, h2⟩
        exact HK3.out W s h1
      have HF2 : Hid (∀ (W : World) (k : Nat), PlI w B bb l2 N nb k W → PlI w B bb l1 N nb k W) := by
        rintro W k ⟨s, G, h1, h2⟩
        rw [← hl2] at h1
        exact ⟨s, G, h1.lessP (HPK.out _ HSZ.out), h2⟩
      have HLE2 : Hid (∀ (W : World) (a b : Nat), a ≤ b → PlI w B bb l2 N nb a W → PlI w B bb l2 N nb b W) := by
        rintro W a b hab ⟨s, G, h1, h2, h3, h4, h5, h6⟩
        exact ⟨s, G, h1, h2, h3, h4, h5, by omega⟩
      clear hhb hl2
      go_upto_region 4 with fail
      clear cp2
      go_cut [10] (fun v wx => v = .pointer (some ⟨hb, 0, none⟩) ∧ Hid (PlI w B bb l2 N nb (n0 + t) wx))
      case first =>
        as_aux_lemma =>
          (refine wp_region_held_drew (S := (fun Z => Z.cell? ⟨pbk, 2, none⟩ = some (.slice (some ⟨mo, off, none⟩) mn cap) ∧ Z.cell? ⟨mo, off + t * 2, none⟩ = some (.int .i64 ka) ∧ Z.cell? ⟨mo, off + t * 2 + 1, none⟩ = some (.int .i64 aa))) (by kernel_rfl) sx (fun hHeld => ?_); simp only [List.size_toArray, List.length_cons, List.length_nil, Nat.reduceAdd, Array.replicate_succ, Array.replicate_zero, List.push_toArray, List.append_toArray, List.nil_append, List.cons_append])
          clear sx
          generalize wr.drew = wd at *
          refine rgT 0 (h := ?_)
          refine rgT 1 (h := ?_)
          refine rgT 2 (h := ?_)
          refine rgT 3 (h := ?_)
          refine rgT 4 (h := ?_)
          refine rgT 5 (h := ?_)
          refine rgT 7 (h := ?_)
          refine rgT 8 (h := ?_)
          refine rgT 9 (h := ?_)
          refine rgT 10 (h := ?_)
          refine rgT 11 (h := ?_)
          refine rgT 12 (h := ?_)
          (refine wpAnyH_ready (rs := [6, 14]) (by kernel_rfl) (by simp) ?_; refine rgA 6 (by rfl) (fun K hK => ?_) (rgA 14 (by rfl) (fun K hK => ?_) AllReadyH.nil) <;> go_simp)
          · refine (HM.out _).mono ?_
            rintro e w9 ⟨rfl, hw9⟩
            rw [hw9]
            clear hw9 w9 HM
            (refine hK.out _ _ hHeld (fun hHeld => ?_); clear hK K; try simp only [Act.put, List.setIfInBounds_toArray, List.set_cons_zero, List.set_cons_succ])
            refine rgT 13 (h := ?_)
            (refine rgS 14 (h := fun K hK => ?_); go_simp)
            (refine hK.out _ _ HAL.out (fun hHeld => ?_); clear hK K; try simp only [Act.put, List.setIfInBounds_toArray, List.set_cons_zero, List.set_cons_succ])
            rw [HHB.out]
            obtain ⟨z1, z2, z3, z4⟩ := HZ.out
            (refine rgS 15 (h := fun K hK => ?_); go_simp)
            (refine hK.out _ _ HAL2.out (fun hHeld => ?_); clear hK K; try simp only [Act.put, List.setIfInBounds_toArray, List.set_cons_zero, List.set_cons_succ])
            refine wpAnyH_done (by kernel_rfl) ?_ _
            clear hHeld z1 z2 z3 z4
            go_wp2_with fail
            go_meet
            case rel => exact ⟨rfl, HRD⟩
          · (refine hK.out _ _ HAL.out (fun hHeld => ?_); clear hK K; try simp only [Act.put, List.setIfInBounds_toArray, List.set_cons_zero, List.set_cons_succ])
            rw [HHB.out]
            (refine rgS 6 (h := fun K hK => ?_); go_simp)
            refine (HM.out _).mono ?_
            rintro e w9 ⟨rfl, hw9⟩
            rw [hw9]
            clear hw9 w9 HM
            (refine hK.out _ _ HAL.out (fun hHeld => ?_); clear hK K; try simp only [Act.put, List.setIfInBounds_toArray, List.set_cons_zero, List.set_cons_succ])
            refine rgT 13 (h := ?_)
            obtain ⟨z1, z2, z3, z4⟩ := HZ.out
            (refine rgS 15 (h := fun K hK => ?_); go_simp)
            (refine hK.out _ _ HAL2.out (fun hHeld => ?_); clear hK K; try simp only [Act.put, List.setIfInBounds_toArray, List.set_cons_zero, List.set_cons_succ])
            refine wpAnyH_done (by kernel_rfl) ?_ _
            clear hHeld z1 z2 z3 z4
            go_wp2_with fail
            go_meet
            case rel => exact ⟨rfl, HRD⟩
      case rest =>
        obtain ⟨rfl, hc0⟩ := hcut
        clear HI HRD HAL HAL2 HZ sx HM
        have m0 : wc.cell? ⟨hb, 0, none⟩ = some (.int .i64 (kd : Int)) := (cell?_heap (HK2.out _ _ hc0.out) 0).trans rfl
        go_upto_if 39 with fail
        go_cut [] (fun wx => Hid (PlI w B bb l2 N nb (n0 + t + 1) wx))
        case first =>
          as_aux_lemma =>
            clear HPL HMV HBD HLE HF HPK HMN
            by_cases h3 : kd < 3
            · have e3 : (kd : Int) < 3 := by omega
              obtain ⟨s, G, h1, h2, h4, h5, h6, h7⟩ := hc0.out
              have HA : Hid (∀ _ : Unit, _) := fun _ => bk_accesses wc B bb l2 s h1
              have H2 : Hid (BkJ s G ∧ Below B w wc ∧ s.N = N ∧ s.nb = nb ∧ s.all.length ≤ n0 + t) := ⟨h2, h4, h5, h6, h7⟩
              have HSX : Hid (∀ _ : Unit, s = s) := fun _ => rfl
              obtain ⟨A, hA⟩ : ∃ x, wrap64 (s.S.acc + s.x.cn) = x := ⟨_, rfl⟩
              have HAE : Hid (wrap64 (s.S.acc + s.x.cn) = A) := hA
              rw [hA] at HA
              have eA : (A != A) = false := by simp
              clear h1 h2 h4 h5 h6 h7 hA hc0 HSX
              go_wp2_with fail
              refine (HA.out ()).mono ?_
              rintro e w3 ⟨rfl, b1, b2⟩
              have g3 : w3.heap[hb]? = some (.cells #[.int .i64 (kd : Int), .int .i64 aa] 40) := HK3.out _ _ b1
              have c0 : w3.cell? ⟨hb, 0, none⟩ = some (.int .i64 (kd : Int)) := (cell?_heap g3 0).trans rfl
              have c1 : w3.cell? ⟨hb, 1, none⟩ = some (.int .i64 aa) := (cell?_heap g3 1).trans rfl
              have H3 : Hid (BkM w3 B bb l2 s ∧ Below B wc w3) := ⟨b1, b2⟩
              have HST : Hid (∀ _ : Unit, _) := fun _ => bk_start w3 B bb l2 s G kd aa b1 H2.out.1 (by omega) (by have := H2.out.2.2.2.2; omega) aa0 aa1
              clear b1 b2 g3 HA m0
              go_wp2_with fail
              refine (HST.out ()).mono ?_
              rintro e w4 ⟨rfl, s', G', b1, b2, b3⟩
              obtain ⟨j1, j2, j3, j4, j5, j6, j7⟩ := b3
              have HA2 : Hid (∀ _ : Unit, _) := fun _ => bk_accesses w4 B bb l2 s' b1
              rw [j2, j3, HAE.out] at HA2
              have HE : Hid (∀ W, BkM W B bb l2 s' → Below B w4 W → PlI w B bb l2 N nb (n0 + t + 1) W) := fun W b5 b6 => ⟨s', G', b5, j1, ((H2.out.2.1.trans H3.out.2).trans b2).trans b6, j4.trans H2.out.2.2.1, j5.trans H2.out.2.2.2.1, by have := H2.out.2.2.2.2; omega⟩
              have H4 : Hid (PlI w B bb l2 N nb (n0 + t + 1) w4) := HE.out w4 b1 (Below.refl _ _)
              clear b1 b2 j1 j2 j3 j4 j5 j6 j7 c0 c1 H3 HST HAE H2
              cases counted with
              | true =>
                go_wp2_with fail
                refine (HA2.out ()).mono ?_
                rintro e w5 ⟨rfl, b1, b2⟩
                have H5 : Hid (PlI w B bb l2 N nb (n0 + t + 1) w5) := HE.out w5 b1 b2
                clear b1 b2 HA2 H4
                go_wp2_with fail
                go_meet
                case rel => exact H5
              | false =>
                clear HA2
                go_wp2_with fail
                go_meet
                case rel => exact H4
            · have e3 : ¬ (kd : Int) < 3 := by omega
              have H4 : Hid (PlI w B bb l2 N nb (n0 + t + 1) wc) := HLE2.out _ _ _ (by omega) hc0.out
              clear hc0
              go_wp2_with fail
              go_meet
              case rel => exact H4
        case rest =>
          have hc1 : Hid (PlI w B bb l2 N nb (n0 + t + 1) wc) := hcut
          clear hcut hc0 m0
          obtain ⟨s, G, h1, h2, h4, h5, h6, h7⟩ := hc1.out
          have m0 : wc.cell? ⟨hb, 0, none⟩ = some (.int .i64 (kd : Int)) := (cell?_heap (HK2.out _ _ hc1.out) 0).trans rfl
          have m1 : wc.cell? ⟨hb, 1, none⟩ = some (.int .i64 aa) := (cell?_heap (HK2.out _ _ hc1.out) 1).trans rfl
          obtain ⟨sp, cp, hv⟩ := h1.a.form
          obtain ⟨n, hnn⟩ : ∃ n, s.all.length = n := ⟨_, rfl⟩
          rw [hnn] at hv h7
          have c9 : wc.cell? ⟨bb, 9, none⟩ = some (.slice sp n cp) := by rw [h1.c 9]; show some s.av = _; rw [hv]
          have HS : Hid (BkM wc B bb l2 s ∧ BkJ s G ∧ Below B w wc ∧ s.N = N ∧ s.nb = nb ∧ n ≤ n0 + t + 1 ∧ s.all.length = n) := ⟨h1, h2, h4, h5, h6, h7, hnn⟩
          clear h1 h2 h4 h5 h6 hv hnn
          obtain ⟨wq, hwq⟩ : ∃ x, wc = x := ⟨_, rfl⟩
          have HQ : Hid (wc = wq) := hwq
          obtain ⟨bq, hbq⟩ : ∃ x, decide ((kd = 3 ∨ kd = 4) ∧ 0 < n) = x := ⟨_, rfl⟩
          have HBQ : Hid (decide ((kd = 3 ∨ kd = 4) ∧ 0 < n) = bq) := hbq
          clear hwq hbq
          go_upto_region 10 with fail
          go_cut [67] (fun v wx => v = .bool bq ∧ Hid (wx = wq))
          case first =>
            as_aux_lemma =>
              clear HPL HMV HBD HLE HF HPK HMN HS hc1
              by_cases k3 : kd = 3
              · subst k3
                by_cases hn0 : 0 < n
                · have e1 : (0 : Int) < (n : Int) := by omega
                  have e2 : bq = true := by rw [← HBQ.out]; exact decide_eq_true ⟨.inl rfl, hn0⟩
                  subst e2
                  clear HBQ
                  go_wp2_with fail
                  go_meet
                  case rel => exact ⟨rfl, HQ⟩
                · have e1 : ¬ (0 : Int) < (n : Int) := by omega
                  have e2 : bq = false := by rw [← HBQ.out]; exact decide_eq_false (fun c => hn0 c.2)
                  subst e2
                  clear HBQ
                  go_wp2_with fail
                  go_meet
                  case rel => exact ⟨rfl, HQ⟩
              · by_cases k4 : kd = 4
                · subst k4
                  by_cases hn0 : 0 < n
                  · have e1 : (0 : Int) < (n : Int) := by omega
                    have e2 : bq = true := by rw [← HBQ.out]; exact decide_eq_true ⟨.inr rfl, hn0⟩
                    subst e2
                    clear HBQ
                    go_wp2_with fail
                    go_meet
                    case rel => exact ⟨rfl, HQ⟩
                  · have e1 : ¬ (0 : Int) < (n : Int) := by omega
                    have e2 : bq = false := by rw [← HBQ.out]; exact decide_eq_false (fun c => hn0 c.2)
                    subst e2
                    clear HBQ
                    go_wp2_with fail
                    go_meet
                    case rel => exact ⟨rfl, HQ⟩
                · have e1 : ((kd : Int) == 3) = false := beq_eq_false_iff_ne.2 (by omega)
                  have e2 : ((kd : Int) == 4) = false := beq_eq_false_iff_ne.2 (by omega)
                  have e3 : bq = false := by rw [← HBQ.out]; exact decide_eq_false (fun c => by rcases c.1 with e | e; exact k3 e; exact k4 e)
                  subst e3
                  clear HBQ
                  go_wp2_with fail
                  go_meet
                  case rel => exact ⟨rfl, HQ⟩
          case rest =>
            obtain ⟨rfl, hc2⟩ := hcut
            have ew := hc2.out
            rw [← HQ.out] at ew
            subst ew
            clear hc2 HQ
            go_upto_if 67 with fail
            go_cut [] (fun wx => Hid (PlI w B bb l2 N nb (n0 + t + 1) wx))
            case first =>
              as_aux_lemma =>
                clear HPL HMV HBD HLE HF HPK HMN m0
                cases bq with
                | false =>
                  clear HS c9 m1
                  go_wp2_with fail
                  go_meet
                  case rel => exact hc1
                | true =>
                  have hn0 : 0 < n := (of_decide_eq_true HBQ.out).2
                  have q0 := Int.emod_nonneg aa (show (n : Int) ≠ 0 by omega)
                  have q1 := Int.emod_lt_of_pos aa (show (0 : Int) < (n : Int) by omega)
                  obtain ⟨i, hi⟩ : ∃ x : Nat, aa % (n : Int) = (x : Int) := ⟨(aa % (n : Int)).toNat, by omega⟩
                  have HM : Hid (∀ W, Calls Tryz.prog 14 #[.int .i64 aa, .int .i64 (n : Int)] W fun e w' => e = .returned (.int .i64 (i : Int)) ∧ w' = W) := fun W => by
                    have := bk_mod aa (n : Int) W aa0 aa1 (by omega) (by omega)
                    rw [hi] at this
                    exact this
                  rw [hi] at q0 q1
                  have hin : i < n := by omega
                  obtain ⟨h1, h2, h4, h5, h6, _, hnn⟩ := HS.out
                  have hit : i < s.all.length := by omega
                  obtain ⟨q, hqi⟩ : ∃ q, s.all[i]? = some q := ⟨s.all[i], List.getElem?_eq_getElem hit⟩
                  obtain ⟨g, cap2, hv, g0, g1, g2, g3⟩ := h1.ones i q hqi
                  have e9 : Value.slice sp n cp = .slice (some ⟨g, 0, none⟩) n cap2 := by
                    have a : wc.cell? ⟨bb, 9, none⟩ = some s.av := h1.c 9
                    rw [c9, hv, hnn] at a
                    injection a
                  rw [e9] at c9
                  rw [hnn] at hv
                  obtain ⟨A, hA⟩ : ∃ x, wrap64 (s.S.acc + s.x.cn) = x := ⟨_, rfl⟩
                  have HAE : Hid (wrap64 (s.S.acc + s.x.cn) = A) := hA
                  obtain ⟨dn, hdn⟩ : ∃ x, q.o.dn = x := ⟨_, rfl⟩
                  have HDN : Hid (q.o.dn = dn) := hdn
                  have HQI : Hid (s.all[i]? = some q) := hqi
                  have HRD : Hid (∀ W, BkM W B bb l2 s → W.cell? ⟨bb, 9, none⟩ = some (.slice (some ⟨g, 0, none⟩) n cap2) ∧ W.cell? ⟨g, i * 12 + 5, none⟩ = some (.bool dn)) := fun W b => ⟨by rw [b.c 9]; show some s.av = _; rw [hv], by rw [← hdn]; exact (b.cells hv i q hqi (i * 12) rfl 5 (by decide)).trans rfl⟩
                  have sx : wc.drew.cell? ⟨hb, 1, none⟩ = some (.int .i64 aa) ∧ wc.drew.cell? ⟨bb, 9, none⟩ = some (.slice (some ⟨g, 0, none⟩) n cap2) := ⟨m1, c9⟩
                  have HA : Hid (∀ _ : Unit, _) := fun _ => bk_accesses wc.drew B bb l2 s h1.drew
                  rw [hA] at HA
                  have HDR : Hid (Below B w wc.drew) := h4.drew
                  clear h1 h2 h4 h5 h6 hnn hit hqi hv g0 g1 g2 g3 e9 hA hdn hi hn0 hc1 HBQ
                  go_wp2_with fail
                  (refine wp_region_held_drew (S := (fun Z => Z.cell? ⟨hb, 1, none⟩ = some (.int .i64 aa) ∧ Z.cell? ⟨bb, 9, none⟩ = some (.slice (some ⟨g, 0, none⟩) n cap2))) (by kernel_rfl) sx (fun hHeld => ?_); simp only [List.size_toArray, List.length_cons, List.length_nil, Nat.reduceAdd, Array.replicate_succ, Array.replicate_zero, List.push_toArray, List.append_toArray, List.nil_append, List.cons_append])
                  clear sx
                  clear m1 c9
                  generalize wc.drew = wd at *
                  refine rgT 0 (h := ?_)
                  refine rgT 1 (h := ?_)
                  refine rgT 2 (h := ?_)
                  refine rgT 3 (h := ?_)
                  refine rgT 4 (h := ?_)
                  refine rgT 5 (h := ?_)
                  refine rgT 6 (h := ?_)
                  (refine rgS 7 (h := fun K hK => ?_); go_simp)
                  refine (HM.out _).mono ?_
                  rintro e w9 ⟨rfl, hw9⟩
                  rw [hw9]
                  clear hw9 w9 HM
                  (refine hK.out _ _ hHeld (fun hHeld => ?_); clear hK K; try simp only [Act.put, List.setIfInBounds_toArray, List.set_cons_zero, List.set_cons_succ])
                  refine rgT 8 (h := ?_)
                  refine wpAnyH_done (by kernel_rfl) ?_ _
                  clear hHeld
                  go_wp2_with fail
                  refine (HA.out ()).mono ?_
                  rintro e w3 ⟨rfl, b1, b2⟩
                  obtain ⟨d9, d5⟩ := HRD.out w3 b1
                  have HMO : Hid (∀ _ : Unit, _) := fun _ => bk_move w3 B bb l2 s G i q b1 HS.out.2.1 HQI.out (by have := HS.out.2.2.2.2.2.2; omega)
                  have HD3 : Hid (Below B w w3) := HDR.out.trans b2
                  clear b1 b2 HA
                  go_wp2_with fail
                  refine (HMO.out ()).mono ?_
                  rintro e w4 ⟨rfl, s', G', o', b1, b2, b3⟩
                  obtain ⟨j1, j2, j3, j4, j5, j6⟩ := b3
                  obtain ⟨A', hA'⟩ : ∃ x, wrap64 (s'.S.acc + s'.x.cn) = x := ⟨_, rfl⟩
                  have HW : Hid (IntKind.i64.wrap (A' - A) = if dn = true then 0 else 1) := by
                    have hq : IntKind.i64.wrap (A' - A) = wrap64 (A' - A) := by
                      have := IntKind.wrap_i64 (A' - A)
                      unfold wrap64
                      omega
                    show _ = _
                    rw [hq, ← hA', ← HAE.out]
                    cases dn with
                    | true =>
                      obtain ⟨x1, x2, _⟩ := j2.1 HDN.out
                      rw [x1, x2, Int.sub_self]
                      show wrap64 0 = 0
                      unfold wrap64
                      omega
                    | false => exact wone _ _ _ _ (j2.2 HDN.out).1
                  have HA2 : Hid (∀ _ : Unit, _) := fun _ => bk_accesses w4 B bb l2 s' b1
                  rw [hA'] at HA2
                  have HE : Hid (∀ W, BkM W B bb l2 s' → Below B w4 W → PlI w B bb l2 N nb (n0 + t + 1) W) := fun W b5 b6 => ⟨s', G', b5, j1, (HD3.out.trans b2).trans b6, j4.trans HS.out.2.2.2.1, j5.trans HS.out.2.2.2.2.1, by have := HS.out.2.2.2.2.2; omega⟩
                  clear b1 b2 j1 j2 j3 j4 j5 j6 hA' HMO d9 d5 HS HRD HD3 HDR HAE HDN HQI
                  go_wp2_with fail
                  refine (HA2.out ()).mono ?_
                  rintro e w5 ⟨rfl, b1, b2⟩
                  have H5 : Hid (PlI w B bb l2 N nb (n0 + t + 1) w5) := HE.out w5 b1 b2
                  clear b1 b2 HA2 HE
                  cases dn with
                  | true =>
                    have hw : IntKind.i64.wrap (A' - A) = 0 := HW.out
                    cases counted with
                    | true =>
                      go_wp2_with fail
                      go_meet
                      case rel => exact H5
                    | false =>
                      go_wp2_with fail
                      go_meet
                      case rel => exact H5
                  | false =>
                    have hw : IntKind.i64.wrap (A' - A) = 1 := HW.out
                    cases counted with
                    | true =>
                      go_wp2_with fail
                      go_meet
                      case rel => exact H5
                    | false =>
                      go_wp2_with fail
                      go_meet
                      case rel => exact H5
            case rest =>
              have hc3 : Hid (PlI w B bb l2 N nb (n0 + t + 1) wc) := hcut
              clear hcut hc1 m0 m1 c9 HS HBQ
              go_upto_region 19 with fail
              go_cut [135] (fun v wx => v = .bool false ∧ Hid (PlI w B bb l1 N nb (n0 + t + 1) wx))
              case first =>
                as_aux_lemma =>
                  clear HPL HMV HBD HLE HF HPK HMN
                  obtain ⟨s, G, h1, h2, h4, h5, h6, h7⟩ := hc3.out
                  have g1 := HK2.out _ _ hc3.out
                  have n1 := h2.n1
                  rw [h6] at n1
                  have sx : wc.drew.cell? ⟨hb, 0, none⟩ = some (.int .i64 (kd : Int)) ∧ wc.drew.cell? ⟨hb, 1, none⟩ = some (.int .i64 aa) ∧ wc.drew.cell? ⟨bb, 3, none⟩ = some (.int .i64 (nb : Int)) := ⟨(cell?_heap g1 0).trans rfl, (cell?_heap g1 1).trans rfl, by rw [← h6]; exact (h1.c 3).trans rfl⟩
                  have H4 : Hid (PlI w B bb l1 N nb (n0 + t + 1) wc.drew) := HF2.out _ _ hc3.out.drew
                  cases looked with
                  | false =>
                    clear h1 h2 h4 h5 h6 h7 g1 n1 hc3
                    (refine wp_region_held_drew (S := (fun Z => Z.cell? ⟨hb, 0, none⟩ = some (.int .i64 (kd : Int)) ∧ Z.cell? ⟨hb, 1, none⟩ = some (.int .i64 aa) ∧ Z.cell? ⟨bb, 3, none⟩ = some (.int .i64 (nb : Int)))) (by kernel_rfl) sx (fun hHeld => ?_); simp only [List.size_toArray, List.length_cons, List.length_nil, Nat.reduceAdd, Array.replicate_succ, Array.replicate_zero, List.push_toArray, List.append_toArray, List.nil_append, List.cons_append])
                    clear sx
                    generalize wc.drew = wd at *
                    refine rgT 0 (h := ?_)
                    refine rgT 1 (h := ?_)
                    refine rgK 2 (h := ?_)
                    refine rgK 3 (h := ?_)
                    refine rgK 4 (h := ?_)
                    refine rgT 5 (h := ?_)
                    refine rgT 6 (h := ?_)
                    refine rgK 7 (h := ?_)
                    refine rgK 8 (h := ?_)
                    refine rgK 9 (h := ?_)
                    refine rgK 10 (h := ?_)
                    refine rgK 11 (h := ?_)
                    refine rgK 12 (h := ?_)
                    refine rgK 13 (h := ?_)
                    refine rgK 14 (h := ?_)
                    refine rgK 15 (h := ?_)
                    refine rgK 16 (h := ?_)
                    refine rgT 17 (h := ?_)
                    refine wpAnyH_done (by kernel_rfl) ?_ _
                    clear hHeld
                    go_wp2_with fail
                    go_meet
                    case rel => exact ⟨rfl, H4⟩
                  | true =>
                    by_cases k5 : kd = 5
                    · have q0 := Int.emod_nonneg aa (show (nb : Int) ≠ 0 by omega)
                      have q1 := Int.emod_lt_of_pos aa (show (0 : Int) < (nb : Int) by omega)
                      obtain ⟨i, hi⟩ : ∃ x : Nat, aa % (nb : Int) = (x : Int) := ⟨(aa % (nb : Int)).toNat, by omega⟩
                      have HM : Hid (∀ W, Calls Tryz.prog 14 #[.int .i64 aa, .int .i64 (nb : Int)] W fun e w' => e = .returned (.int .i64 (i : Int)) ∧ w' = W) := fun W => by
                        have := bk_mod aa (nb : Int) W aa0 aa1 (by omega) (by omega)
                        rw [hi] at this
                        exact this
                      have hin : i < nb := by omega
                      have HR : Hid (∀ _ : Unit, _) := fun _ => bk_row wc.drew B bb l2 s G i h1.drew h2 (by rw [h6]; exact hin)
                      have HE : Hid (∀ W, BkM W B bb l2 s → Below B wc.drew W → PlI w B bb l2 N nb (n0 + t + 1) W) := fun W b5 b6 => ⟨s, G, b5, h2, h4.drew.trans b6, h5, h6, h7⟩
                      have HC3 : Hid (∀ W, BkM W B bb l2 s → W.cell? ⟨bb, 3, none⟩ = some (.int .i64 (nb : Int))) := fun W b => by rw [← h6]; exact (b.c 3).trans rfl
                      clear h1 h2 h4 h5 h6 h7 g1 n1 hc3 hi q0 q1 hin H4
                      subst k5
                      (refine wp_region_held_drew (S := (fun Z => Z.cell? ⟨hb, 0, none⟩ = some (.int .i64 5) ∧ Z.cell? ⟨hb, 1, none⟩ = some (.int .i64 aa) ∧ Z.cell? ⟨bb, 3, none⟩ = some (.int .i64 (nb : Int)))) (by kernel_rfl) sx (fun hHeld => ?_); simp only [List.size_toArray, List.length_cons, List.length_nil, Nat.reduceAdd, Array.replicate_succ, Array.replicate_zero, List.push_toArray, List.append_toArray, List.nil_append, List.cons_append])
                      clear sx
                      generalize wc.drew = wd at *
                      refine rgT 0 (h := ?_)
                      refine rgT 1 (h := ?_)
                      refine rgT 2 (h := ?_)
                      refine rgT 3 (h := ?_)
                      refine rgT 4 (h := ?_)
                      refine rgT 5 (h := ?_)
                      refine rgT 6 (h := ?_)
                      refine rgT 7 (h := ?_)
                      refine rgT 8 (h := ?_)
                      refine rgT 9 (h := ?_)
                      refine rgT 10 (h := ?_)
                      refine rgT 11 (h := ?_)
                      refine rgT 12 (h := ?_)
                      refine rgT 13 (h := ?_)
                      (refine rgS 14 (h := fun K hK => ?_); go_simp)
                      refine (HM.out _).mono ?_
                      rintro e w9 ⟨rfl, hw9⟩
                      rw [hw9]
                      clear hw9 w9 HM
                      (refine hK.out _ _ hHeld (fun hHeld => ?_); clear hK K; try simp only [Act.put, List.setIfInBounds_toArray, List.set_cons_zero, List.set_cons_succ])
                      (refine rgS 15 (h := fun K hK => ?_); go_simp)
                      refine (HR.out ()).mono ?_
                      rintro e w5 ⟨rfl, b1, b2⟩
                      have H5 : Hid (PlI w B bb l2 N nb (n0 + t + 1) w5) := HE.out w5 b1 b2
                      have g5 := HK2.out _ _ H5.out
                      have sy : w5.cell? ⟨hb, 0, none⟩ = some (.int .i64 5) ∧ w5.cell? ⟨hb, 1, none⟩ = some (.int .i64 aa) ∧ w5.cell? ⟨bb, 3, none⟩ = some (.int .i64 (nb : Int)) := ⟨(cell?_heap g5 0).trans rfl, (cell?_heap g5 1).trans rfl, HC3.out w5 b1⟩
                      have H6 : Hid (PlI w B bb l1 N nb (n0 + t + 1) w5) := HF2.out _ _ H5.out
                      clear b1 b2 g5 H5 HE HC3 HR hHeld
                      (refine hK.out _ _ sy (fun hHeld => ?_); clear hK K; try simp only [Act.put, List.setIfInBounds_toArray, List.set_cons_zero, List.set_cons_succ])
                      clear sy
                      refine rgT 16 (h := ?_)
                      refine rgT 17 (h := ?_)
                      refine wpAnyH_done (by kernel_rfl) ?_ _
                      clear hHeld
                      go_wp2_with fail
                      go_meet
                      case rel => exact ⟨rfl, H6⟩
                    · have e5 : ((kd : Int) == 5) = false := beq_eq_false_iff_ne.2 (by omega)
                      clear h1 h2 h4 h5 h6 h7 g1 n1 hc3
                      (refine wp_region_held_drew (S := (fun Z => Z.cell? ⟨hb, 0, none⟩ = some (.int .i64 (kd : Int)) ∧ Z.cell? ⟨hb, 1, none⟩ = some (.int .i64 aa) ∧ Z.cell? ⟨bb, 3, none⟩ = some (.int .i64 (nb : Int)))) (by kernel_rfl) sx (fun hHeld => ?_); simp only [List.size_toArray, List.length_cons, List.length_nil, Nat.reduceAdd, Array.replicate_succ, Array.replicate_zero, List.push_toArray, List.append_toArray, List.nil_append, List.cons_append])
                      clear sx
                      generalize wc.drew = wd at *
                      refine rgT 0 (h := ?_)
                      refine rgT 1 (h := ?_)
                      refine rgT 2 (h := ?_)
                      refine rgT 3 (h := ?_)
                      refine rgT 4 (h := ?_)
                      refine rgT 5 (h := ?_)
                      refine rgT 6 (h := ?_)
                      refine rgK 7 (h := ?_)
                      refine rgK 8 (h := ?_)
                      refine rgK 9 (h := ?_)
                      refine rgK 10 (h := ?_)
                      refine rgK 11 (h := ?_)
                      refine rgK 12 (h := ?_)
                      refine rgK 13 (h := ?_)
                      refine rgK 14 (h := ?_)
                      refine rgK 15 (h := ?_)
                      refine rgK 16 (h := ?_)
                      refine rgT 17 (h := ?_)
                      refine wpAnyH_done (by kernel_rfl) ?_ _
                      clear hHeld
                      go_wp2_with fail
                      go_meet
                      case rel => exact ⟨rfl, H4⟩
              case rest =>
                obtain ⟨rfl, hc4⟩ := hcut
                clear HPL HMV HBD HLE HF HPK HMN hc3 HK2 HK3 HF2 HLE2
                go_wp2
                go_roundw
                case rel => exact ⟨t + 1, by omega, by go_num, hc4⟩
                case measure => simp [intOf]; omega
    · have t1 : ¬ (t : Int) < (mn : Int) := by omega
      have HE : Hid (PlI w B bb l N nb (n0 + mn) wr) := by
        have := HF.out _ _ hI.out
        have e : t = mn := by omega
        rw [e] at this
        exact this
      clear hI hbx hbl hbe
      go_wp2
      go_ret
      exact ⟨rfl, HE.out⟩
end Go.Proofs.YteekompojgbkhaaGreat
