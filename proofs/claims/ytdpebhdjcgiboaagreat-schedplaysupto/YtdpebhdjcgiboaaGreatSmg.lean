import Derived.Test.YtdpebhdjcgiboaaGreatSmf
namespace Go.Proofs.YtdpebhdjcgiboaaGreat
open Go.ChangeShapes Go.WideShapes Go.ChangeAt Go.RowKit Go.MuLone Go.RwLone
set_option linter.unusedVariables false
set_option maxRecDepth 100000
set_option maxHeartbeats 6400000
theorem eqNilB2 (w : World) (x : Option Addr) : (binOp .eql 70 (.pointer x) (.pointer none)).run Tryz.prog w = .ok (.bool x.isNone) w := by
  cases x <;> kernel_rfl
theorem eqNilR2 (w : World) (x : Option Addr) : (binOp .eql 74 (.pointer x) (.pointer none)).run Tryz.prog w = .ok (.bool x.isNone) w := by
  cases x <;> kernel_rfl
theorem wtq_nil : ∀ l : List (List Pq), (∀ x ∈ l, x = []) → wtq l = 0
  | [], _ => rfl
  | a :: r, h => by
    have ha := h a (List.mem_cons_self ..)
    have ih := wtq_nil r (fun x hx => h x (List.mem_cons_of_mem _ hx))
    subst ha
    unfold wtq at *
    simpa [wtl] using ih
theorem szq_nil : ∀ l : List (List Pq), (∀ x ∈ l, x = []) → szq l = 0
  | [], _ => rfl
  | a :: r, h => by
    have ha := h a (List.mem_cons_self ..)
    have ih := szq_nil r (fun x hx => h x (List.mem_cons_of_mem _ hx))
    subst ha
    unfold szq at *
    simpa using ih
theorem plays_walk (w : World) (C : Nat) (ca : Option Addr) (cc : Nat) (ta : Option Addr) (tc : Nat) (tvf : Nat → Value) (cs : List Int) (ts : List (List I8)) (h : LitG w C ca cc ta tc tvf cs ts) (hco : csOk cs) (hio : ∀ l ∈ ts, ∀ x ∈ l, immOk x) (l1 : cs.length ≤ 1048576) (l2 : ts.length ≤ 1048576) (l3 : ∀ i (hi : i < ts.length), ts[i].length ≤ 1048576) (x : Int) (ua : Option Addr) (uc : Nat) (us : List Opx) (hu : InG opL w C (.slice ua us.length uc) us) (hul : us.length ≤ 1048576) (huz : ∀ o ∈ us, OpOk w C o) (hC : C ≤ w.heap.size) :
    Calls Tryz.prog 7 #[.int .i64 x, .agg (litC ca cs.length cc ta ts.length tc), .slice ua us.length uc] w fun e w' => e = .returned (.bool true) ∧ Below w.heap.size w w' := by
  have sz0 : (w.alloc (.cells (litC ca cs.length cc ta ts.length tc) 49)).heap.size = w.heap.size + 1 := szAl _ _
  have HK : Hid (∀ W, Below (w.heap.size + 1) (w.alloc (.cells (litC ca cs.length cc ta ts.length tc) 49)) W → LitG W C ca cc ta tc tvf cs ts ∧ InG opL W C (.slice ua us.length uc) us ∧ (∀ o ∈ us, OpOk W C o) ∧ W.cell? ⟨w.heap.size, 0, none⟩ = some (.slice ca cs.length cc) ∧ W.cell? ⟨w.heap.size, 1, none⟩ = some (.slice ta ts.length tc) ∧ Below w.heap.size w W) := fun W b => by
    have b0 : Below w.heap.size w (w.alloc (.cells (litC ca cs.length cc ta ts.length tc) 49)) := (Below.refl _ _).alloc (Nat.le_refl _) _
    have bb := b0.trans (b.mono (by omega))
    have eb : W.heap[w.heap.size]? = some (.cells (litC ca cs.length cc ta ts.length tc) 49) := (b.block _ (by omega)).trans (heap_alloc_last _ _ _ rfl)
    exact ⟨h.later (bb.mono hC), hu.later (bb.mono hC), fun o ho => (huz o ho).later (bb.mono hC), (cell?_heap eb 0).trans rfl, (cell?_heap eb 1).trans rfl, bb⟩
  have HI : Hid (csOk cs ∧ (∀ l ∈ ts, ∀ x ∈ l, immOk x) ∧ (∀ i (hi : i < ts.length), ts[i].length ≤ 1099511627776)) := ⟨hco, hio, fun i hi => by have := l3 i hi; omega⟩
  clear h hu hco hio l3 huz
  obtain ⟨-, -, -, q0, q1, -⟩ := HK.out _ (Below.refl _ _)
  go_enter Tryz.func7, Tryz.ntmps7
  go_wp2_with fail
  refine (copyLit (w.alloc (.cells (litC ca cs.length cc ta ts.length tc) 49)) C ca cc ta tc tvf cs ts (HK.out _ (Below.refl _ _)).1 (by rw [sz0]; omega) (by omega) (by omega) HI.out.2.2).mono ?_
  rintro e w1 ⟨ca', cc', ta', tc', tv', rfl, g1, be1⟩
  have H1 : Hid (LitG w1 w1.heap.size ca' cc' ta' tc' tv' cs ts ∧ Below (w.heap.size + 1) (w.alloc (.cells (litC ca cs.length cc ta ts.length tc) 49)) w1) := ⟨g1, by rw [← sz0]; exact be1⟩
  have s1 : w.heap.size + 1 ≤ w1.heap.size := by rw [← sz0]; exact be1.size
  clear g1 be1 q0 q1
  go_wp2_with fail
  refine (layV w1 w1.heap.size ca' cc' ta' tc' tv' cs ts H1.out.1 (Nat.le_refl _) HI.out.1 HI.out.2.1).mono ?_
  rintro e w2 ⟨op1, rfl, lp, k2⟩
  have H2 : Hid (LayP w2 (fun y => w1.heap.size ≤ y ∧ y < w2.heap.size) op1 cs ts ∧ Below (w.heap.size + 1) (w.alloc (.cells (litC ca cs.length cc ta ts.length tc) 49)) w2) := ⟨lp, H1.out.2.trans (k2.below (by omega) (fun _ _ e => e))⟩
  have s2 : w1.heap.size ≤ w2.heap.size := k2.size
  clear lp k2 H1
  obtain ⟨E1, hE1⟩ : ∃ E1, outE cs ts = E1 := ⟨_, rfl⟩
  have HE1 : Hid (outE cs ts = E1) := hE1
  rw [hE1]
  clear hE1
  obtain ⟨-, -, -, q0, q1, -⟩ := HK.out w2 H2.out.2
  go_wp2_with fail
  refine (rlayV w2 C ca cc ta tc tvf cs ts (HK.out w2 H2.out.2).1 (by omega)).mono ?_
  rintro e w3 ⟨op2, rfl, lr, k3⟩
  rw [HE1.out]
  have H3 : Hid (LayP w3 (fun y => w1.heap.size ≤ y ∧ y < w2.heap.size) op1 cs ts ∧ LayR w3 (fun y => w2.heap.size ≤ y ∧ y < w3.heap.size) op2 cs ts ∧ Below (w.heap.size + 1) (w.alloc (.cells (litC ca cs.length cc ta ts.length tc) 49)) w3) := ⟨H2.out.1.keeps k3 (fun _ e => e.elim), lr, H2.out.2.trans (k3.below (by omega) (fun _ _ e => e))⟩
  have s3 : w2.heap.size ≤ w3.heap.size := k3.size
  clear lr k3 H2 q0 q1
  rcases H3.out.1 with ⟨sn, rfl⟩ | ⟨sy, B, bb, b1, b2, tv, rfl, hB, bn, bw, bi, bf⟩
  · obtain rfl : op2 = none := by
      rcases H3.out.2.1 with ⟨_, e⟩ | ⟨e, _⟩
      · exact e
      · rw [sn] at e; cases e
    clear sn
    by_cases hx : x < 1 ∨ 16 < x
    · go_wp2_with fail
      refine (hnew_no w3 x hx).mono ?_
      rintro e w4 ⟨rfl, rfl⟩
      go_wp2_with fail
      refine (rnew_no w4 x none hx).mono ?_
      rintro e w5 ⟨rfl, rfl⟩
      go_wp2
      go_ret
      exact ⟨rfl, (HK.out _ H3.out.2.2).2.2.2.2.2⟩
    · obtain ⟨n, rfl⟩ : ∃ n : Nat, x = (n : Int) := ⟨x.toNat, by omega⟩
      go_wp2_with fail
      refine (hnew_any w3 n (by omega) (by omega)).mono ?_
      rintro e w4 ⟨rfl, hw4⟩
      have H4 : Hid (Keeps (fun _ => False) w3 w4) := by rw [hw4]; exact ((Keeps.refl _ _).alloc _).alloc _
      clear hw4
      go_wp2_with fail
      refine (rnew_nil w4 n (by omega) (by omega)).mono ?_
      rintro e w5 ⟨⟨u, rfl⟩, k5⟩
      have H5 : Hid (Below w.heap.size w w5) := (HK.out w5 (H3.out.2.2.trans ((H4.out.trans k5).below (by omega) (fun _ _ e => e)))).2.2.2.2.2
      clear k5 H4
      go_wp2
      go_ret
      exact ⟨rfl, H5.out⟩
  · obtain ⟨R, r1, r2, rfl, hR, rn, rw', ri, rf⟩ : ∃ R r1 r2, op2 = some ⟨R.bk, 0, none⟩ ∧ RdOk R ∧ R.n = ts.length ∧ R.wd = cs.length ∧ R.ins = insL ts ∧ BsF w3 (fun y => w2.heap.size ≤ y ∧ y < w3.heap.size) R r1 r2 (begA cs ts) := by
      rcases H3.out.2.1 with ⟨e, _⟩ | ⟨_, R, r1, r2, e1, e2⟩
      · rw [sy] at e; cases e
      · exact ⟨R, r1, r2, e1, e2⟩
    have HOK : Hid (PairOk B R ts cs.length) := by
      obtain ⟨f1, f2, _⟩ := sound_facts sy
      exact ⟨hB, hR, bn, bw, bi, rn, rw', ri, f2, f1.2⟩
    have HBF : Hid (BnF w3 (fun y => w1.heap.size ≤ y ∧ y < w2.heap.size) B bb b1 b2 tv (begA cs ts) ∧ BsF w3 (fun y => w2.heap.size ≤ y ∧ y < w3.heap.size) R r1 r2 (begA cs ts)) := ⟨bf, rf⟩
    clear sy hB bn bw bi bf hR rn rw' ri rf
    by_cases hx : x < 1 ∨ 16 < x
    · go_wp2_with fail
      refine (hnew_no w3 x hx).mono ?_
      rintro e w4 ⟨rfl, rfl⟩
      go_wp2_with fail
      refine (rnew_no w4 x _ hx).mono ?_
      rintro e w5 ⟨rfl, rfl⟩
      go_wp2
      go_ret
      exact ⟨rfl, (HK.out _ H3.out.2.2).2.2.2.2.2⟩
    · obtain ⟨n, rfl⟩ : ∃ n : Nat, x = (n : Int) := ⟨x.toNat, by omega⟩
      have hn16 : n ≤ 16 := by omega
      go_wp2_with fail
      refine (hnew_any w3 n (by omega) hn16).mono ?_
      rintro e w4 ⟨rfl, hw4⟩
      have k4 : Keeps (fun _ => False) w3 w4 := by rw [hw4]; exact ((Keeps.refl _ _).alloc _).alloc _
      have s4 : w3.heap.size + 2 ≤ w4.heap.size := by rw [hw4, szAl, szAl]; omega
      have H4 : Hid (Keeps (fun _ => False) w3 w4 ∧ Hm w4 (fun y => y = w3.heap.size ∨ y = w3.heap.size + 1) B.T (w3.heap.size + 1) w3.heap.size (fun _ => .slice none 0 0) (.slice none 0 0) (.slice none 0 0) (hpT n 0)) := ⟨k4, Hm.fresh B.T n hn16 (by rw [hw4]; exact Keeps.refl _ _)⟩
      clear hw4 k4
      go_wp2_with fail
      refine (rnew_any w4 n R.bk (by omega) hn16).mono ?_
      rintro e w5 ⟨rfl, hw5⟩
      have k5 : Keeps (fun _ => False) w4 w5 := by rw [hw5]; exact ((Keeps.refl _ _).alloc _).alloc _
      have s5 : w4.heap.size + 2 ≤ w5.heap.size := by rw [hw5, szAl, szAl]; omega
      have H5 : Hid (Keeps (fun _ => False) w4 w5 ∧ Rh w5 (fun y => y = w4.heap.size ∨ y = w4.heap.size + 1) R.bk (w4.heap.size + 1) w4.heap.size (fun _ => .slice none 0 0) (.slice none 0 0) (.slice none 0 0) (hpT n 0)) := ⟨k5, Rh.fresh n R.bk hn16 (by rw [hw5]; exact Keeps.refl _ _)⟩
      clear hw5 k5
      have H6 : Hid (∃ G H P Q a0 a, PSt (w5.alloc (.cells (sdC (w3.heap.size + 1) bb (w4.heap.size + 1) R.bk) 90)) G H P Q B bb b1 b2 tv R r1 r2 (w3.heap.size + 1) w3.heap.size (w4.heap.size + 1) w4.heap.size w5.heap.size a0 a ts cs.length (128 * 0) n ∧ (∀ y, U4 G H P Q y → w.heap.size + 1 ≤ y) ∧ Below (w.heap.size + 1) (w.alloc (.cells (litC ca cs.length cc ta ts.length tc) 49)) (w5.alloc (.cells (sdC (w3.heap.size + 1) bb (w4.heap.size + 1) R.bk) 90))) := by
        have kS : Keeps (fun _ => False) w5 (w5.alloc (.cells (sdC (w3.heap.size + 1) bb (w4.heap.size + 1) R.bk) 90)) := (Keeps.refl _ _).alloc _
        have kA : Keeps (fun _ => False) w3 (w5.alloc (.cells (sdC (w3.heap.size + 1) bb (w4.heap.size + 1) R.bk) 90)) := (H4.out.1.trans H5.out.1).trans kS
        refine ⟨(fun y => w1.heap.size ≤ y ∧ y < w2.heap.size), (fun y => w2.heap.size ≤ y ∧ y < w3.heap.size), (fun y => y = w3.heap.size ∨ y = w3.heap.size + 1), (fun y => y = w4.heap.size ∨ y = w4.heap.size + 1), (begA cs ts).1, (hpT n 0, (begA cs ts).2), ⟨HOK.out, ⟨HBF.out.1.still kA, HBF.out.2.still kA, ⟨_, _, _, H4.out.2.still (H5.out.1.trans kS)⟩, ⟨_, _, _, H5.out.2.still kS⟩, fun y e e' => by omega, fun y e e' => by omega, fun y e e' => by omega, fun y e e' => by omega, fun y e e' => by omega, fun y e e' => by omega⟩, heap_alloc_last _ _ _ rfl, fun e => ?_, ⟨fun i l hl => ?_, ?_, ?_, fun m hm => by cases hm⟩, hpT_len n 0⟩, fun y e => ?_, H3.out.2.2.trans (kA.below (by omega) (fun _ _ e => e))⟩
        · rcases e with e | e | e | e <;> omega
        · have : l = [] := by
            obtain ⟨hi, he⟩ := List.getElem?_eq_some_iff.1 hl
            rw [← he]
            simp [hpT]
          rw [this]
          exact ⟨by simp, fun x hx => by cases hx⟩
        · have e : wtq (hpT n 0).q = 0 := by
            refine wtq_nil _ fun l hl => ?_
            simp [hpT] at hl
            exact hl.2.symm ▸ rfl
          show 0 + wtq (hpT n 0).q ≤ _
          omega
        · have e : szq (hpT n 0).q = 0 := by
            refine szq_nil _ fun l hl => ?_
            simp [hpT] at hl
            exact hl.2.symm ▸ rfl
          show 0 + szq (hpT n 0).q ≤ _
          omega
        · rcases e with e | e | e | e <;> omega
      go_wp2_with fail
      obtain ⟨G, H, P, Q, a0, a, h6⟩ := H6.out
      have H6 : Hid _ := h6
      clear h6 HBF H4 H5
      go_loopw [18] (fun d wr => ∃ (t : Nat) (P' Q' : Nat → Prop) (a' : Hp × Ls), d = .int .i64 t ∧ t ≤ us.length ∧ PSt wr G H P' Q' B bb b1 b2 tv R r1 r2 (w3.heap.size + 1) w3.heap.size (w4.heap.size + 1) w4.heap.size w5.heap.size a0 a' ts cs.length (128 * t) n ∧ (∀ y, U4 G H P' Q' y → w.heap.size + 1 ≤ y) ∧ Below (w.heap.size + 1) (w.alloc (.cells (litC ca cs.length cc ta ts.length tc) 49)) wr) (fun d _ => us.length - (intOf d).toNat)
      case atStart => exact ⟨0, P, Q, a, rfl, by omega, H6.out.1, H6.out.2.1, H6.out.2.2⟩
      case round =>
        clear H6
        obtain ⟨t, P', Q', a', rfl, ht, ps, hU, hbl⟩ := hrel
        have HR : Hid (PSt wr G H P' Q' B bb b1 b2 tv R r1 r2 (w3.heap.size + 1) w3.heap.size (w4.heap.size + 1) w4.heap.size w5.heap.size a0 a' ts cs.length (128 * t) n ∧ (∀ y, U4 G H P' Q' y → w.heap.size + 1 ≤ y) ∧ Below (w.heap.size + 1) (w.alloc (.cells (litC ca cs.length cc ta ts.length tc) 49)) wr) := ⟨ps, hU, hbl⟩
        clear ps hU hbl
        by_cases h5 : t < us.length
        · have t0 : (0 : Int) ≤ (t : Int) := Int.natCast_nonneg _
          have t1 : (t : Int) < (us.length : Int) := by omega
          obtain ⟨-, hI, hO, -, -, -⟩ := HK.out wr HR.out.2.2
          obtain ⟨kb, ko, rfl, -, hc⟩ := InG.cell (cs := opL) (n := 6) (fun _ => rfl) hI t h5 (by decide)
          have hok := hO us[t] (List.getElem_mem h5)
          have hsz : w.heap.size + 1 ≤ wr.heap.size := by have := HR.out.2.2.size; omega
          generalize us[t] = o at *
          obtain ⟨kd, wh, tg, nn, pv, vs, mv, ks⟩ := o
          obtain ⟨pa, pc, e1, _⟩ := hok.p
          obtain ⟨ma, mc, e2, _⟩ := hok.m
          dsimp only at e1 e2
          subst e1 e2
          have c0 : wr.cell? ⟨kb, ko + t * 6, none⟩ = some (.int .i64 kd) := hc 0 (by decide)
          have c1 : wr.cell? ⟨kb, ko + t * 6 + 1, none⟩ = some (.int .i64 wh) := hc 1 (by decide)
          have c2 : wr.cell? ⟨kb, ko + t * 6 + 2, none⟩ = some (.int .i64 tg) := hc 2 (by decide)
          have c3 : wr.cell? ⟨kb, ko + t * 6 + 3, none⟩ = some (.int .i64 nn) := hc 3 (by decide)
          have c4 : wr.cell? ⟨kb, ko + t * 6 + 4, none⟩ = some (.slice pa vs.length pc) := hc 4 (by decide)
          have c5 : wr.cell? ⟨kb, ko + t * 6 + 5, none⟩ = some (.slice ma ks.length mc) := hc 5 (by decide)
          have eo : (opW wr kd wh tg nn (.slice pa vs.length pc) (.slice ma ks.length mc)).heap[wr.heap.size]? = some (.cells (opC kd wh tg nn (.slice pa vs.length pc) (.slice ma ks.length mc)) 93) := heap_alloc_last _ _ _ rfl
          have o0 : (opW wr kd wh tg nn (.slice pa vs.length pc) (.slice ma ks.length mc)).cell? ⟨wr.heap.size, 0, none⟩ = some (.int .i64 kd) := (cell?_heap eo 0).trans rfl
          have o1 : (opW wr kd wh tg nn (.slice pa vs.length pc) (.slice ma ks.length mc)).cell? ⟨wr.heap.size, 1, none⟩ = some (.int .i64 wh) := (cell?_heap eo 1).trans rfl
          have o2 : (opW wr kd wh tg nn (.slice pa vs.length pc) (.slice ma ks.length mc)).cell? ⟨wr.heap.size, 2, none⟩ = some (.int .i64 tg) := (cell?_heap eo 2).trans rfl
          have o3 : (opW wr kd wh tg nn (.slice pa vs.length pc) (.slice ma ks.length mc)).cell? ⟨wr.heap.size, 3, none⟩ = some (.int .i64 nn) := (cell?_heap eo 3).trans rfl
          have o4 : (opW wr kd wh tg nn (.slice pa vs.length pc) (.slice ma ks.length mc)).cell? ⟨wr.heap.size, 4, none⟩ = some (.slice pa vs.length pc) := (cell?_heap eo 4).trans rfl
          have o5 : (opW wr kd wh tg nn (.slice pa vs.length pc) (.slice ma ks.length mc)).cell? ⟨wr.heap.size, 5, none⟩ = some (.slice ma ks.length mc) := (cell?_heap eo 5).trans rfl
          have kO : Keeps (fun _ => False) wr (opW wr kd wh tg nn (.slice pa vs.length pc) (.slice ma ks.length mc)) := (Keeps.refl _ _).alloc _
          have HPS : Hid (PSt (opW wr kd wh tg nn (.slice pa vs.length pc) (.slice ma ks.length mc)) G H P' Q' B bb b1 b2 tv R r1 r2 (w3.heap.size + 1) w3.heap.size (w4.heap.size + 1) w4.heap.size w5.heap.size a0 a' ts cs.length (128 * t) n ∧ C ≤ (opW wr kd wh tg nn (.slice pa vs.length pc) (.slice ma ks.length mc)).heap.size ∧ OpOk (opW wr kd wh tg nn (.slice pa vs.length pc) (.slice ma ks.length mc)) C ⟨kd, wh, tg, nn, .slice pa vs.length pc, vs, .slice ma ks.length mc, ks⟩ ∧ (∀ y, U4 G H P' Q' y → C ≤ y)) := ⟨HR.out.1.still kO, by rw [szAl]; omega, hok.later (kO.below (by omega) (fun _ _ e => e)), fun y e => by have := HR.out.2.1 y e; omega⟩
          have HMV : Hid (∀ w9, MvP (opW wr kd wh tg nn (.slice pa vs.length pc) (.slice ma ks.length mc)) G H P' Q' B bb b1 b2 tv R r1 r2 (w3.heap.size + 1) w3.heap.size (w4.heap.size + 1) w4.heap.size w5.heap.size a0 ts cs.length (128 * t) n w9 → ∃ P2 Q2 a2, PSt w9 G H P2 Q2 B bb b1 b2 tv R r1 r2 (w3.heap.size + 1) w3.heap.size (w4.heap.size + 1) w4.heap.size w5.heap.size a0 a2 ts cs.length (128 * (t + 1)) n ∧ (∀ y, U4 G H P2 Q2 y → w.heap.size + 1 ≤ y) ∧ Below (w.heap.size + 1) (w.alloc (.cells (litC ca cs.length cc ta ts.length tc) 49)) w9) := fun w9 mv => by
            obtain ⟨P2, Q2, a2, q, hP, hQ, k⟩ := mv
            have so : (opW wr kd wh tg nn (.slice pa vs.length pc) (.slice ma ks.length mc)).heap.size = wr.heap.size + 1 := szAl _ _
            refine ⟨P2, Q2, a2, q, fun y e => ?_, (HR.out.2.2.trans (kO.below (by omega) (fun _ _ e => e))).trans (k.below (by omega) (fun y hy e => by have := HR.out.2.1 y e; omega))⟩
            rcases e with e | e | e | e
            · exact HR.out.2.1 y (.inl e)
            · exact HR.out.2.1 y (.inr (.inl e))
            · rcases hP y e with e | e
              · exact HR.out.2.1 y (.inr (.inr (.inl e)))
              · omega
            · rcases hQ y e with e | e
              · exact HR.out.2.1 y (.inr (.inr (.inr e)))
              · omega
          have hc8 : 128 * t ≤ 1000000000 := by omega
          clear hI hO hok hc eo kO
          by_cases m1 : kd = 1
          · subst m1
            have HM : Hid (∀ _ : Unit, Calls Tryz.prog 35 #[.pointer (some ⟨w5.heap.size, 0, none⟩), .agg (opC 1 wh tg nn (.slice pa vs.length pc) (.slice ma ks.length mc))] (opW wr 1 wh tg nn (.slice pa vs.length pc) (.slice ma ks.length mc)) fun e w' => e = .returned (.bool true) ∧ MvP (opW wr 1 wh tg nn (.slice pa vs.length pc) (.slice ma ks.length mc)) G H P' Q' B bb b1 b2 tv R r1 r2 (w3.heap.size + 1) w3.heap.size (w4.heap.size + 1) w4.heap.size w5.heap.size a0 ts cs.length (128 * t) n w') := fun _ => (op_move (opW wr 1 wh tg nn (.slice pa vs.length pc) (.slice ma ks.length mc)) G H P' Q' B bb b1 b2 tv R r1 r2 (w3.heap.size + 1) w3.heap.size (w4.heap.size + 1) w4.heap.size w5.heap.size a0 a' ts cs.length (128 * t) n C ⟨1, wh, tg, nn, .slice pa vs.length pc, vs, .slice ma ks.length mc, ks⟩ (by simp) HPS.out.1 hc8 HPS.out.2.2.2 HPS.out.2.1 HPS.out.2.2.1)
            go_wp2_with fail
            refine (HM.out ()).mono ?_
            rintro e w9 ⟨rfl, mv⟩
            have HN : Hid _ := HMV.out w9 mv
            clear mv c0 c1 c2 c3 c4 c5 o0 o1 o2 o3 o4 o5
            go_wp2
            go_roundw
            case rel =>
              obtain ⟨P2, Q2, a2, q1, q2, q3⟩ := HN.out
              exact ⟨t + 1, P2, Q2, a2, by go_num, by omega, q1, q2, q3⟩
            case measure => simp [intOf]; omega
          by_cases m2 : kd = 2
          · subst m2
            have HM : Hid (∀ _ : Unit, Calls Tryz.prog 35 #[.pointer (some ⟨w5.heap.size, 0, none⟩), .agg (opC 2 wh tg nn (.slice pa vs.length pc) (.slice ma ks.length mc))] (opW wr 2 wh tg nn (.slice pa vs.length pc) (.slice ma ks.length mc)) fun e w' => e = .returned (.bool true) ∧ MvP (opW wr 2 wh tg nn (.slice pa vs.length pc) (.slice ma ks.length mc)) G H P' Q' B bb b1 b2 tv R r1 r2 (w3.heap.size + 1) w3.heap.size (w4.heap.size + 1) w4.heap.size w5.heap.size a0 ts cs.length (128 * t) n w') := fun _ => (op_move (opW wr 2 wh tg nn (.slice pa vs.length pc) (.slice ma ks.length mc)) G H P' Q' B bb b1 b2 tv R r1 r2 (w3.heap.size + 1) w3.heap.size (w4.heap.size + 1) w4.heap.size w5.heap.size a0 a' ts cs.length (128 * t) n C ⟨2, wh, tg, nn, .slice pa vs.length pc, vs, .slice ma ks.length mc, ks⟩ (by simp) HPS.out.1 hc8 HPS.out.2.2.2 HPS.out.2.1 HPS.out.2.2.1)
            go_wp2_with fail
            refine (HM.out ()).mono ?_
            rintro e w9 ⟨rfl, mv⟩
            have HN : Hid _ := HMV.out w9 mv
            clear mv c0 c1 c2 c3 c4 c5 o0 o1 o2 o3 o4 o5
            go_wp2
            go_roundw
            case rel =>
              obtain ⟨P2, Q2, a2, q1, q2, q3⟩ := HN.out
              exact ⟨t + 1, P2, Q2, a2, by go_num, by omega, q1, q2, q3⟩
            case measure => simp [intOf]; omega
          by_cases m3 : kd = 3
          · subst m3
            have HM : Hid (∀ _ : Unit, Calls Tryz.prog 35 #[.pointer (some ⟨w5.heap.size, 0, none⟩), .agg (opC 3 wh tg nn (.slice pa vs.length pc) (.slice ma ks.length mc))] (opW wr 3 wh tg nn (.slice pa vs.length pc) (.slice ma ks.length mc)) fun e w' => e = .returned (.bool true) ∧ MvP (opW wr 3 wh tg nn (.slice pa vs.length pc) (.slice ma ks.length mc)) G H P' Q' B bb b1 b2 tv R r1 r2 (w3.heap.size + 1) w3.heap.size (w4.heap.size + 1) w4.heap.size w5.heap.size a0 ts cs.length (128 * t) n w') := fun _ => (op_move (opW wr 3 wh tg nn (.slice pa vs.length pc) (.slice ma ks.length mc)) G H P' Q' B bb b1 b2 tv R r1 r2 (w3.heap.size + 1) w3.heap.size (w4.heap.size + 1) w4.heap.size w5.heap.size a0 a' ts cs.length (128 * t) n C ⟨3, wh, tg, nn, .slice pa vs.length pc, vs, .slice ma ks.length mc, ks⟩ (by simp) HPS.out.1 hc8 HPS.out.2.2.2 HPS.out.2.1 HPS.out.2.2.1)
            go_wp2_with fail
            refine (HM.out ()).mono ?_
            rintro e w9 ⟨rfl, mv⟩
            have HN : Hid _ := HMV.out w9 mv
            clear mv c0 c1 c2 c3 c4 c5 o0 o1 o2 o3 o4 o5
            go_wp2
            go_roundw
            case rel =>
              obtain ⟨P2, Q2, a2, q1, q2, q3⟩ := HN.out
              exact ⟨t + 1, P2, Q2, a2, by go_num, by omega, q1, q2, q3⟩
            case measure => simp [intOf]; omega
          by_cases m4 : kd = 4
          · subst m4
            have HM : Hid (∀ _ : Unit, Calls Tryz.prog 35 #[.pointer (some ⟨w5.heap.size, 0, none⟩), .agg (opC 4 wh tg nn (.slice pa vs.length pc) (.slice ma ks.length mc))] (opW wr 4 wh tg nn (.slice pa vs.length pc) (.slice ma ks.length mc)) fun e w' => e = .returned (.bool true) ∧ MvP (opW wr 4 wh tg nn (.slice pa vs.length pc) (.slice ma ks.length mc)) G H P' Q' B bb b1 b2 tv R r1 r2 (w3.heap.size + 1) w3.heap.size (w4.heap.size + 1) w4.heap.size w5.heap.size a0 ts cs.length (128 * t) n w') := fun _ => (op_move (opW wr 4 wh tg nn (.slice pa vs.length pc) (.slice ma ks.length mc)) G H P' Q' B bb b1 b2 tv R r1 r2 (w3.heap.size + 1) w3.heap.size (w4.heap.size + 1) w4.heap.size w5.heap.size a0 a' ts cs.length (128 * t) n C ⟨4, wh, tg, nn, .slice pa vs.length pc, vs, .slice ma ks.length mc, ks⟩ (by simp) HPS.out.1 hc8 HPS.out.2.2.2 HPS.out.2.1 HPS.out.2.2.1)
            go_wp2_with fail
            refine (HM.out ()).mono ?_
            rintro e w9 ⟨rfl, mv⟩
            have HN : Hid _ := HMV.out w9 mv
            clear mv c0 c1 c2 c3 c4 c5 o0 o1 o2 o3 o4 o5
            go_wp2
            go_roundw
            case rel =>
              obtain ⟨P2, Q2, a2, q1, q2, q3⟩ := HN.out
              exact ⟨t + 1, P2, Q2, a2, by go_num, by omega, q1, q2, q3⟩
            case measure => simp [intOf]; omega
          by_cases m10 : kd = 10
          · subst m10
            have HM : Hid (∀ _ : Unit, Calls Tryz.prog 35 #[.pointer (some ⟨w5.heap.size, 0, none⟩), .agg (opC 10 wh tg nn (.slice pa vs.length pc) (.slice ma ks.length mc))] (opW wr 10 wh tg nn (.slice pa vs.length pc) (.slice ma ks.length mc)) fun e w' => e = .returned (.bool true) ∧ MvP (opW wr 10 wh tg nn (.slice pa vs.length pc) (.slice ma ks.length mc)) G H P' Q' B bb b1 b2 tv R r1 r2 (w3.heap.size + 1) w3.heap.size (w4.heap.size + 1) w4.heap.size w5.heap.size a0 ts cs.length (128 * t) n w') := fun _ => (op_move (opW wr 10 wh tg nn (.slice pa vs.length pc) (.slice ma ks.length mc)) G H P' Q' B bb b1 b2 tv R r1 r2 (w3.heap.size + 1) w3.heap.size (w4.heap.size + 1) w4.heap.size w5.heap.size a0 a' ts cs.length (128 * t) n C ⟨10, wh, tg, nn, .slice pa vs.length pc, vs, .slice ma ks.length mc, ks⟩ (by simp) HPS.out.1 hc8 HPS.out.2.2.2 HPS.out.2.1 HPS.out.2.2.1)
            go_wp2_with fail
            refine (HM.out ()).mono ?_
            rintro e w9 ⟨rfl, mv⟩
            have HN : Hid _ := HMV.out w9 mv
            clear mv c0 c1 c2 c3 c4 c5 o0 o1 o2 o3 o4 o5
            go_wp2
            go_roundw
            case rel =>
              obtain ⟨P2, Q2, a2, q1, q2, q3⟩ := HN.out
              exact ⟨t + 1, P2, Q2, a2, by go_num, by omega, q1, q2, q3⟩
            case measure => simp [intOf]; omega
          have HM : Hid (∀ _ : Unit, Calls Tryz.prog 36 #[.pointer (some ⟨w5.heap.size, 0, none⟩), .agg (opC kd wh tg nn (.slice pa vs.length pc) (.slice ma ks.length mc))] (opW wr kd wh tg nn (.slice pa vs.length pc) (.slice ma ks.length mc)) fun e w' => e = .returned (.bool true) ∧ MvP (opW wr kd wh tg nn (.slice pa vs.length pc) (.slice ma ks.length mc)) G H P' Q' B bb b1 b2 tv R r1 r2 (w3.heap.size + 1) w3.heap.size (w4.heap.size + 1) w4.heap.size w5.heap.size a0 ts cs.length (128 * t) n w') := fun _ => (op_look (opW wr kd wh tg nn (.slice pa vs.length pc) (.slice ma ks.length mc)) G H P' Q' B bb b1 b2 tv R r1 r2 (w3.heap.size + 1) w3.heap.size (w4.heap.size + 1) w4.heap.size w5.heap.size a0 a' ts cs.length (128 * t) n C ⟨kd, wh, tg, nn, .slice pa vs.length pc, vs, .slice ma ks.length mc, ks⟩ HPS.out.1 hc8 HPS.out.2.2.1)
          go_wp2_with fail
          refine (HM.out ()).mono ?_
          rintro e w9 ⟨rfl, mv⟩
          have HN : Hid _ := HMV.out w9 mv
          clear mv c0 c1 c2 c3 c4 c5 o0 o1 o2 o3 o4 o5
          go_wp2
          go_roundw
          case rel =>
            obtain ⟨P2, Q2, a2, q1, q2, q3⟩ := HN.out
            exact ⟨t + 1, P2, Q2, a2, by go_num, by omega, q1, q2, q3⟩
          case measure => simp [intOf]; omega
        · have HZ : Hid (Below w.heap.size w wr) := (HK.out wr HR.out.2.2).2.2.2.2.2
          clear HR
          go_wp2
          go_ret
          exact ⟨rfl, HZ.out⟩
end Go.Proofs.YtdpebhdjcgiboaaGreat
