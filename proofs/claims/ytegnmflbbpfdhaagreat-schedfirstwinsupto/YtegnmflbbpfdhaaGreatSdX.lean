import Derived.Test.YtegnmflbbpfdhaaGreatSdW
namespace Go.Proofs.YtegnmflbbpfdhaaGreat
open Go.ChangeShapes Go.WideShapes Go.ChangeAt Go.RowKit Go.MuLone Go.RwLone
set_option linter.unusedVariables false
set_option maxRecDepth 100000
set_option maxHeartbeats 3200000
theorem La.tc {w0 wr : World} {M : Nat} {L : Lay} {S : AS} {bb hb qb n : Nat} {x0 : Int} {f : Nat → Bk} {tv : Value} {ts : List Nat} (h : La w0 wr M L S bb hb qb n x0 f n tv ts) (x : Nat) (hx : Tc (adOf wr.heap.size L hb qb n f) x) : w0.heap.size ≤ x := by
  obtain ⟨i, hi, e⟩ := hx
  have a := h.ea i hi
  have a1 := a.o1
  have a2 := a.o2
  have a3 := a.o3
  have hh := h.hm
  have hq := h.qm
  have hs := h.bl.size
  rcases e with e | e | e | e | e | e
  · exact (h.lm x e).1
  · have : x = (f i).T := e
    omega
  · have : x = hb := e
    omega
  · have : x = qb := e
    omega
  · have : x = (f i).pb := e
    omega
  · have : wr.heap.size ≤ x := e
    omega
/-- How a program of swaps ends. -/
def Ends (w : World) (x0 : Int) (n g : Nat) (rv : Value) : Prop :=
  ∃ rg : Nat → Nat → Int, w.cell? ⟨g, 0, none⟩ = some (.int .u64 7) ∧ (∃ v, v < n ∧ w.cell? ⟨g, 1, none⟩ = some (.int .u64 (nw x0 v)) ∧ ∀ i, i < n → rg i 2 = if i = v then 1 else 0) ∧ OwG wdC 22 1 w 0 rv (regsL rg n)
theorem cell_lt {w : World} {a : Addr} {v : Value} (h : w.cell? a = some v) : a.block < w.heap.size := by
  rcases Nat.lt_or_ge a.block w.heap.size with h1 | h1
  · exact h1
  · have : w.heap[a.block]? = none := Array.getElem?_eq_none h1
    simp [World.cell?, this] at h
abbrev ouW (w5 : World) (r : Nat) (a b : Value) : World := ((w5.alloc (.cells #[a, b] 34)).setCell ⟨r, 0, none⟩ a).setCell ⟨r, 1, none⟩ b
theorem Ends.out {w5 : World} {x0 : Int} {n g r : Nat} {rv a b : Value} {c : Array Value} (h : Ends w5 x0 n g rv) (hr : w5.heap[r]? = some (.cells c 34)) (hc : c.size = 2) (hg : g ≠ r) : Ends (ouW w5 r a b) x0 n g rv ∧ Keeps (fun x => x = r) w5 (ouW w5 r a b) ∧ (ouW w5 r a b).heap[r]? = some (.cells #[a, b] 34) := by
  have hl := (Array.getElem?_eq_some_iff.1 hr).1
  have e1 : (w5.alloc (.cells #[a, b] 34)).heap[r]? = some (.cells c 34) := (Below.heap_alloc _ _ _ hl).trans hr
  have e2 : ((w5.alloc (.cells #[a, b] 34)).setCell ⟨r, 0, none⟩ a).heap[r]? = some (.cells (c.setIfInBounds 0 a) 34) := by simp [World.setCell, Array.getElem?_modify, e1]
  have e3 : (ouW w5 r a b).heap[r]? = some (.cells ((c.setIfInBounds 0 a).setIfInBounds 1 b) 34) := by
    show (((w5.alloc (.cells #[a, b] 34)).setCell ⟨r, 0, none⟩ a).setCell ⟨r, 1, none⟩ b).heap[r]? = _
    generalize (w5.alloc (.cells #[a, b] 34)).setCell ⟨r, 0, none⟩ a = w6 at *
    simp [World.setCell, Array.getElem?_modify, e2]
  have k : Keeps (fun x => x = r) w5 (ouW w5 r a b) := (Keeps.setCell (B := fun x => x = r) (Keeps.setCell (B := fun x => x = r) ((Keeps.refl _ _).alloc _) rfl _) rfl _)
  have kt : KpT 34 w5 (ouW w5 r a b) := ((KpT.below ((Below.refl _ _).alloc (Nat.le_refl _) _)).trans (KpT.set e1 _)).trans (KpT.set e2 _)
  obtain ⟨rg, h0, ⟨v, hv, h1, h2⟩, ho⟩ := h
  refine ⟨⟨rg, (k.cell (p := ⟨g, 0, none⟩) (cell_lt h0) hg).trans h0, ⟨v, hv, (k.cell (p := ⟨g, 1, none⟩) (cell_lt h1) hg).trans h1, h2⟩, ho.kept kt (by decide)⟩, k, ?_⟩
  rw [e3]
  obtain ⟨l⟩ := c
  match l, hc with
  | [u, v], _ => rfl
abbrev rnW (w : World) (n cb tb tc : Nat) : World := (litW w n cb tb tc).alloc (.cells #[.slice none 0 0, .slice none 0 0] 34)
theorem run_swaps (w : World) (x0 : Int) (n cb tb tc : Nat) (ib ic : Nat → Nat) (h : Lit2 w x0 n cb tb ib ic) (h1 : 1 ≤ n) (h4 : n ≤ 4) (x1 : 0 ≤ x0) (x2 : x0 < 18446744073709551616) (s : ByteArray) (hs : s.size ≤ 1048576) :
    Calls Tryz.prog 7 #[litV n cb tb tc, .string s] w fun e w' => ∃ g rv, e = .returned (.tuple #[.agg #[.slice (some ⟨g, 0, none⟩) 2 2, rv], .int .i64 0]) ∧ Ends w' x0 n g rv ∧ Below w.heap.size w w' := by
  have H : Hid (Lit2 (rnW w n cb tb tc) x0 n cb tb ib ic) := h.still (((Keeps.refl _ _).alloc _).alloc _)
  have sz : (rnW w n cb tb tc).heap.size = w.heap.size + 2 := by rw [szAl, szAl]
  have HR : Hid ((rnW w n cb tb tc).heap[w.heap.size + 1]? = some (.cells #[.slice none 0 0, .slice none 0 0] 34) ∧ Below w.heap.size w (rnW w n cb tb tc)) := ⟨heap_alloc_last _ _ _ (szAl _ _).symm, ((Below.refl _ _).alloc (Nat.le_refl _) _).alloc (by simp) _⟩
  clear h
  go_enter Tryz.func7, Tryz.ntmps7
  go_wp2_with fail
  refine (lay_swaps (rnW w n cb tb tc) x0 n cb tb tc ib ic H.out h1 h4 x1 x2).mono ?_
  rintro e w2 ⟨M, L, bb, hb, qb, f, tv, rfl, la⟩
  have sf := as2_facts x0
  obtain ⟨A, hAd⟩ : ∃ A, A = adOf w2.heap.size L hb qb n f := ⟨_, rfl⟩
  have HN : Hid (A.n = n ∧ A.hb = hb) := by rw [hAd]; exact ⟨rfl, rfl⟩
  have HT : Hid (∀ x, Tc A x → (rnW w n cb tb tc).heap.size ≤ x) := by rw [hAd]; exact fun x => la.tc x
  have HA : Hid (Ly A) := by rw [hAd]; exact la.ly h1 h4
  have HB : Hid (Bn w2 A x0 (fun _ => false) ∧ Lb w2 A bb tv) := by
    rw [hAd]
    exact ⟨la.bn h1 h4 sf.1 sf.2.1 sf.2.2.1 sf.2.2.2.1 sf.2.2.2.2.1 sf.2.2.2.2.2.1 sf.2.2.2.2.2.2, la.lb⟩
  have HL : Hid (Below (rnW w n cb tb tc).heap.size (rnW w n cb tb tc) w2) := la.bl
  clear la sf hAd H
  go_wp2_with fail
  refine (bplay_any w2 A x0 _ HA.out HB.out.1 x1 x2 bb tv HB.out.2 s hs).mono ?_
  rintro e w3 ⟨r, d3, rfl, b3, f3⟩
  have H3 : Hid (Bn w3 A x0 d3 ∧ Lb w3 A bb tv ∧ Fm A w2 w3) := ⟨b3, HB.out.2.keeps f3.k (fun _ e => e), f3⟩
  clear b3 f3 HB
  have HC3 := H3.out.2.1.be
  have c3 := (cell?_heap HC3 3).trans rfl
  clear HC3
  go_wp2_with fail
  refine (drain_any w3 A x0 d3 HA.out H3.out.1 x1 x2 14 (by have := left_le d3 A.n; have := HA.out.n4; omega) (by decide)).mono ?_
  rintro e w4 ⟨r4, d4, rfl, b4, f4, a4⟩
  have H4 : Hid (Bn w4 A x0 d4 ∧ Lb w4 A bb tv ∧ Fm A w2 w4 ∧ ∀ i, i < A.n → d4 i = true) := ⟨b4, H3.out.2.1.keeps f4.k (fun _ e => e), H3.out.2.2.trans f4, a4⟩
  clear b4 f4 a4 H3 c3
  go_wp2_with fail
  refine (outcome_any w4 A x0 d4 HA.out H4.out.1 bb tv H4.out.2.1).mono ?_
  rintro e w5 ⟨S, rg, b, g, rv, rfl, won, g0, g1, ow, k5, gm⟩
  have hs4 : (rnW w n cb tb tc).heap.size ≤ w4.heap.size := Nat.le_trans HL.out.size H4.out.2.2.1.k.size
  have K5 : Keeps (fun x => w.heap.size + 2 ≤ x) (rnW w n cb tb tc) w5 := ((Keeps.mono (B' := fun x => w.heap.size + 2 ≤ x) (⟨HL.out.os, HL.out.tape, HL.out.output, HL.out.size, fun k hk hn => HL.out.block k (by omega)⟩ : Keeps (fun x => w.heap.size + 2 ≤ x) (rnW w n cb tb tc) w2) (fun _ e => e)).trans (H4.out.2.2.1.k.mono (fun x e => by have := HT.out x e; show w.heap.size + 2 ≤ x; omega))).trans (k5.mono (fun x e => by have := HT.out x (Tc.lay HA.out e); show w.heap.size + 2 ≤ x; omega))
  have er : w5.heap[w.heap.size + 1]? = some (.cells #[.slice none 0 0, .slice none 0 0] 34) := (K5.block _ (by omega) (by show ¬ w.heap.size + 2 ≤ w.heap.size + 1; omega)).trans HR.out.1
  have en : Ends w5 x0 n g rv := by
    obtain ⟨w7, hw⟩ := won
    have hn := HN.out.1
    rw [hn] at hw ow
    rcases hw with ⟨hw, _⟩ | ⟨v, hv, _, hw, hr⟩
    · have := H4.out.2.2.2 0 (by omega)
      rw [hw 0 (by omega)] at this
      cases this
    · exact ⟨rg, by rw [g0, w7], ⟨v, hv, by rw [g1, hw], hr⟩, ow.down (Nat.zero_le _)⟩
  obtain ⟨ra, rc, hrv⟩ := ow.form
  subst hrv
  have gr : g ≠ w.heap.size + 1 := by omega
  generalize (regsL rg A.n).length = mm at *
  have eo := Ends.out (a := .slice (some ⟨g, 0, none⟩) 2 2) (b := .slice ra mm rc) en er rfl gr
  have HX : Hid (Ends (ouW w5 (w.heap.size + 1) (.slice (some ⟨g, 0, none⟩) 2 2) (.slice ra mm rc)) x0 n g (.slice ra mm rc) ∧ Below w.heap.size w (ouW w5 (w.heap.size + 1) (.slice (some ⟨g, 0, none⟩) 2 2) (.slice ra mm rc))) := ⟨eo.1, HR.out.2.trans (Keeps.below (B := fun x => w.heap.size + 1 ≤ x) ((K5.mono (fun x e => by show w.heap.size + 1 ≤ x; omega)).trans (eo.2.1.mono (fun x e => by show w.heap.size + 1 ≤ x; omega))) (by omega) (fun x hx e => by have : w.heap.size + 1 ≤ x := e; omega))⟩
  have z1 := eo.2.2
  have er6 : (w5.alloc (.cells #[.slice (some ⟨g, 0, none⟩) 2 2, .slice ra mm rc] 34)).heap[w.heap.size + 1]? = some (.cells #[.slice none 0 0, .slice none 0 0] 34) := (Below.heap_alloc _ _ _ (Array.getElem?_eq_some_iff.1 er).1).trans er
  have r0 := (cell?_heap er6 0).trans rfl
  have r1 := (cell?_heap er6 1).trans rfl
  have q0 := frozen?_heap er6 0
  have q1 := frozen?_heap er6 1
  clear en won g0 g1 ow k5 K5 H4 HT HL HR HA HN eo er er6
  go_wp2
  exact bodyPost_ret (results_row_tmp (p := 4) (ty := 34) (q := 5) rfl _ _ (w.heap.size + 1) 34 _ (0, 0) _ rfl z1 Tryz.underlying34 rfl (by kernel_rfl)) rfl ⟨g, _, rfl, HX.out⟩
end Go.Proofs.YtegnmflbbpfdhaaGreat
