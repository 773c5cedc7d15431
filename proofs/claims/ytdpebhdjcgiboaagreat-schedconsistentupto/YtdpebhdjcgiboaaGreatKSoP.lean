import Derived.Test.YtdpebhdjcgiboaaGreatKSoN
namespace Go.Proofs.YtdpebhdjcgiboaaGreat
open Go.ChangeShapes Go.WideShapes Go.ChangeAt Go.RowKit Go.MuLone Go.RwLone
set_option linter.unusedVariables false
set_option maxRecDepth 100000
set_option maxHeartbeats 6400000
/-- A state in which a program can end. -/
def EndS (cs : List Int) (tl : List (List I8)) (u : List Int) : Prop := (∃ ws, wrd (tsL (insL tl) tl.length) ws (encS (begA cs tl).2) u) ∧ allT (tsL (insL tl) tl.length) u tl.length = true
theorem ends_all {cs : List Int} {tl : List (List I8)} {B : Bd} (hB : BdIs B cs tl) {V : List (Vi (List Int))} (o : Vo (tsL B.ins B.n) (encS (begA cs tl).2) V V.length 0) {u : List Int} (hu : EndS cs tl u) : ∃ k v, k ∈ endsP (tsL B.ins B.n) V V.length ∧ V[k]? = some v ∧ v.1 = u := by
  rw [hB.i, hB.n] at o ⊢
  obtain ⟨⟨ws, hw⟩, hd⟩ := hu
  obtain ⟨v, hv, e⟩ := List.mem_map.1 (o.from0 _ hw)
  obtain ⟨k, hk⟩ := List.getElem?_of_mem hv
  refine ⟨k, v, ends_in.2 ⟨(List.getElem?_eq_some_iff.1 hk).1, v, hk, ?_⟩, hk, e⟩
  rw [e]; exact hd
theorem ends_is {cs : List Int} {tl : List (List I8)} {B : Bd} (hB : BdIs B cs tl) {V : List (Vi (List Int))} (o : Vo (tsL B.ins B.n) (encS (begA cs tl).2) V V.length 0) {k : Nat} (hk : k ∈ endsP (tsL B.ins B.n) V V.length) : ∃ v, V[k]? = some v ∧ EndS cs tl v.1 ∧ wrd (tsL (insL tl) tl.length) (pathP V V.length k) (encS (begA cs tl).2) v.1 := by
  rw [hB.i, hB.n] at o hk
  obtain ⟨hl, v, hv, hd⟩ := ends_in.1 hk
  have hw := path_wrd _ o V.length k v (by omega) hv
  exact ⟨v, hv, ⟨⟨_, hw⟩, hd⟩, hw⟩
theorem end_some {cs : List Int} {tl : List (List I8)} (hsd : soundP cs tl = true) (vs : List (Int × Int × Int)) : EndS cs tl (encS (endA cs tl vs).2) := by
  obtain ⟨hc4, hn4, _⟩ := sound_facts hsd
  obtain ⟨hc, hd, ws, hw⟩ := end_reach hsd vs
  refine ⟨⟨ws, hw⟩, ?_⟩
  unfold allT
  rw [List.all_eq_true]
  intro m hm
  show dnI (insL tl) (decS (encS (endA cs tl vs).2)) m = true
  rw [dec_enc hc hc4.2 hn4.2]
  unfold dnI
  exact decide_eq_true (hd m (List.mem_range.1 hm))
theorem OuW.down {w : World} {B C : Nat} {x : OuD} (h : OuW w B x) (hc : C ≤ B) : OuW w C x := ⟨h.o1.down hc, h.o2.down hc, h.l1, h.l2⟩
theorem wlL_len (wo : Nat → Int) (wd : Nat) : (wlL wo wd).length = wd := by simp [wlL]
theorem infoOu : (Tryz.prog.info? 51).map (fun i => (i.zero, i.size, i.bytes)) = some (some (.agg #[.slice none 0 0, .slice none 0 0]), 2, 48) := by kernel_rfl
/-- In the midst of telling all outcomes. -/
structure OL (w1 wr : World) (G : Nat → Prop) (B : Bd) (bb hb qb : Nat) (tv : Value) (kb mb : Nat) (vv ev : Value) (V : List (Vi (List Int))) (E : List Nat) (av : Value) (xs : List OuD) (t : Nat) : Prop where
  o : OwG ouC 51 2 wr w1.heap.size av xs
  l : xs.length = t
  x : ∀ x ∈ xs, OuW wr w1.heap.size x
  i : ∀ (j : Nat) (x : OuD), xs[j]? = some x → ∃ k v, E[j]? = some k ∧ V[k]? = some v ∧ x.X = wlL (decS v.1).wo B.wd ∧ x.Y = regsL (decS v.1).rg B.n
  b : ∃ a, Wb wr G B bb hb qb tv a kb mb vv ev V E
  k : Keeps G w1 wr
/-- What Outcomes answers. -/
structure Outs (w w' : World) (cs : List Int) (tl : List (List I8)) (v : Value) (ys : List OuD) : Prop where
  i : InG ouC w' w'.heap.size v ys
  o : ∀ y ∈ ys, OuW w' w.heap.size y
  k : Below w.heap.size w w'
  e : ∀ y ∈ ys, ∃ u, EndS cs tl u ∧ y.X = wlL (decS u).wo cs.length ∧ y.Y = regsL (decS u).rg tl.length
  a : ∀ u, EndS cs tl u → ∃ y ∈ ys, y.X = wlL (decS u).wo cs.length ∧ y.Y = regsL (decS u).rg tl.length
  l : ys.length ≤ 6103515625
  s : ys.Pairwise (fun a b => 0 ≤ cmO b.X b.Y a.X a.Y)
theorem outcomes_any (w : World) (C : Nat) (ca : Option Addr) (cc : Nat) (ta : Option Addr) (tc : Nat) (tvf : Nat → Value) (cs : List Int) (tl : List (List I8)) (h : LitG w C ca cc ta tc tvf cs tl) (hC : C ≤ w.heap.size) (hsd : soundP cs tl = true) (hco : csOk cs) (hio : ∀ l ∈ tl, ∀ x ∈ l, immOk x) :
    Calls Tryz.prog 27 #[.agg (litC ca cs.length cc ta tl.length tc)] w fun e w' => ∃ v ys, e = .returned (.tuple #[v, .int .i64 0]) ∧ Outs w w' cs tl v ys := by
  obtain ⟨hc4, hn4, -⟩ := sound_facts hsd
  have k0 : Keeps (fun _ => False) w (w.alloc (.cells (litC ca cs.length cc ta tl.length tc) 49)) := (Keeps.refl _ _).alloc _
  have HL := explore_any (w.alloc (.cells (litC ca cs.length cc ta tl.length tc) 49)) C ca cc ta tc tvf cs tl (h.later (k0.below hC (fun _ _ e => e))) (by rw [szAl]; omega) hsd hco hio
  have HLL : Hid (∀ _ : Unit, _) := fun _ => HL
  have HK0 : Hid (Below w.heap.size w (w.alloc (.cells (litC ca cs.length cc ta tl.length tc) 49)) ∧ soundP cs tl = true ∧ w.heap.size ≤ (w.alloc (.cells (litC ca cs.length cc ta tl.length tc) 49)).heap.size) := ⟨k0.below (Nat.le_refl _) (fun _ _ e => e), hsd, by rw [szAl]; omega⟩
  clear h HL k0 hsd hco hio
  go_enter Tryz.func27, Tryz.ntmps27
  go_wp2_with fail
  refine (HLL.out ()).mono ?_
  rintro e w1 ⟨kb, rfl, hE⟩
  clear HLL
  obtain ⟨G, B, bb, hb, qb, tv, a, mb, vv, ev, V, hB, hx⟩ := hE
  have HX : Hid (BdIs B cs tl ∧ Ex (w.alloc (.cells (litC ca cs.length cc ta tl.length tc) 49)) w1 cs tl G B bb hb qb tv a kb mb vv ev V V.length) := ⟨hB, hx⟩
  have hBn : 1 ≤ B.n ∧ B.n ≤ 4 := by rw [hB.n]; exact hn4
  have hBw : 1 ≤ B.wd ∧ B.wd ≤ 4 := by rw [hB.w]; exact hc4
  have hfew : V.length ≤ 6103515625 := by
    have := hx.o
    rw [hB.i, hB.n] at this
    exact few_all HK0.out.2.1 this
  obtain ⟨E, hEE⟩ : ∃ E, endsP (tsL B.ins B.n) V V.length = E := ⟨_, rfl⟩
  have hEn : E ≠ [] := by
    obtain ⟨k, v, hk, _⟩ := ends_all hB hx.o (end_some HK0.out.2.1 [])
    rw [hEE] at hk
    exact List.ne_nil_of_mem hk
  have hEl : E.length ≤ V.length := by rw [← hEE]; exact ends_len _ _ _
  have hwb := hx.h
  rw [hEE] at hwb
  obtain ⟨ge, ce, hev, -, -⟩ := owG_some hwb.k.e hEn
  subst hev
  have HE : Hid (endsP (tsL B.ins B.n) V V.length = E ∧ E ≠ []) := ⟨hEE, hEn⟩
  have HG : Hid ((∀ y, G y → y < w1.heap.size) ∧ ∀ y, fK kb mb vv (.slice (some ⟨ge, 0, none⟩) E.length ce) y → y < w1.heap.size) := ⟨hwb.b.gl, fun y hy => hwb.k.lt hy⟩
  have HO0 : Hid (OL w1 w1 G B bb hb qb tv kb mb vv (.slice (some ⟨ge, 0, none⟩) E.length ce) V E (.slice none 0 0) [] 0) := ⟨OwG.nil _ _ _ _ _, rfl, (fun x hx => by cases hx), (fun j x hj => by simp at hj), ⟨a, hwb⟩, Keeps.refl _ _⟩
  have c3 := (cell?_heap hwb.k.k 3).trans rfl
  clear hB hx hEE hEn hwb
  go_wp2_with fail
  clear c3
  go_loopw [6, 22] (fun c6 c wr => ∃ (t : Nat) (xs : List OuD), c = .int .i64 (t : Int) ∧ t ≤ E.length ∧ OL w1 wr G B bb hb qb tv kb mb vv (.slice (some ⟨ge, 0, none⟩) E.length ce) V E c6 xs t) (fun _ c _ => E.length - (intOf c).toNat)
  case atStart => exact ⟨0, [], rfl, Nat.zero_le _, HO0.out⟩
  case round =>
    rename World => wr
    obtain ⟨t, xs, rfl, ht, hO⟩ := hrel
    obtain ⟨xa, xc, rfl⟩ := hO.o.form
    have hxn := hO.l
    rw [hxn] at hO ⊢
    have HO : Hid (OL w1 wr G B bb hb qb tv kb mb vv (.slice (some ⟨ge, 0, none⟩) E.length ce) V E (.slice xa t xc) xs t ∧ xs.length = t) := ⟨hO, hxn⟩
    have t0 : (0 : Int) ≤ (t : Int) := Int.natCast_nonneg _
    by_cases h5 : t < E.length
    · have t1 : (t : Int) < (E.length : Int) := by omega
      obtain ⟨ar, hW⟩ := hO.b
      have cE : wr.cell? ⟨ge, t, none⟩ = some (.int .i64 ((E[t] : Nat) : Int)) := by
        rw [World.ownsRow.cellAt hW.k.e t (by omega)]
        have := flat_get enC 1 (fun _ => rfl) E t h5 0 (by decide)
        rw [Nat.mul_one, Nat.add_zero] at this
        rw [this]
        rfl
      have HW : Hid (Wb wr G B bb hb qb tv ar kb mb vv (.slice (some ⟨ge, 0, none⟩) E.length ce) V E) := hW
      obtain ⟨k, hkE⟩ : ∃ k, E[t] = k := ⟨_, rfl⟩
      rw [hkE] at cE
      have HKE : Hid (E[t]? = some k) := by show _ = _; rw [List.getElem?_eq_getElem h5, hkE]
      clear hO hxn hW hkE
      go_wp2_with fail
      have hkm : k ∈ endsP (tsL B.ins B.n) V V.length := by rw [HE.out.1]; exact List.mem_of_getElem? HKE.out
      obtain ⟨v, hv, hvE, -⟩ := ends_is HX.out.1 HX.out.2.o hkm
      refine (outcome_any wr G B HX.out.1.ok bb hb qb tv ar kb mb vv _ V E HW.out hBn hBw k v hv (HX.out.2.g v (List.mem_of_getElem? hv)) hfew).mono ?_
      rintro e w2 ⟨g, rv, rfl, o1, o2, ⟨a2, hW2⟩, k2⟩
      obtain ⟨ra, rc, hrv⟩ := o2.form
      subst hrv
      have hM : w1.heap.size ≤ wr.heap.size := HO.out.1.k.size
      have hX2 : OuW w2 w1.heap.size ⟨some ⟨g, 0, none⟩, B.wd, ra, rc, wlL (decS v.1).wo B.wd, regsL (decS v.1).rg B.n⟩ := ⟨by show OwW w2 _ (.slice _ (wlL (decS v.1).wo B.wd).length _) _; rw [wlL_len]; exact o1.down hM, o2.down hM, by show (wlL _ _).length ≤ _; rw [wlL_len]; omega, by show (regsL _ _).length ≤ _; rw [regsL_len]; omega⟩
      have H2 : Hid (OuW w2 w1.heap.size ⟨some ⟨g, 0, none⟩, B.wd, ra, rc, wlL (decS v.1).wo B.wd, regsL (decS v.1).rg B.n⟩ ∧ Wb w2 G B bb hb qb tv a2 kb mb vv (.slice (some ⟨ge, 0, none⟩) E.length ce) V E ∧ Keeps G wr w2 ∧ w1.heap.size ≤ w2.heap.size ∧ V[k]? = some v) := ⟨hX2, hW2, k2, Nat.le_trans hM k2.size, hv⟩
      have HOW : Hid (OwG ouC 51 2 w2 w1.heap.size (.slice xa t xc) xs) := owK HO.out.1.o k2 (fun y hy e => by have := (World.ownsRow.lt HO.out.1.o y hy).1; have := HG.out.1 y e; omega)
      have hyl : (regsL (decS v.1).rg B.n).length = 4 * B.n := regsL_len _ _
      obtain ⟨yn, hyn⟩ : ∃ yn, (regsL (decS v.1).rg B.n).length = yn := ⟨_, rfl⟩
      have HYN : Hid ((regsL (decS v.1).rg B.n).length = yn) := hyn
      rw [hyn]
      clear o1 o2 hW2 k2 hX2 hv hkm hvE hyl hyn cE
      have hB51 : 140737488355328 ≥ (t + 1) * 48 := by omega
      go_wp2_with (at_builtin; refine hideG ?_)
      change wpList _ _ _ _ _ _
      refine app_one (cs := ouC) (wr := w2) (by rfl) _ _ 63 51 (by rfl) Tryz.underlying63 infoOu rfl (by decide) (fun _ => rfl) w1.heap.size _ xs ⟨some ⟨g, 0, none⟩, B.wd, ra, rc, wlL (decS v.1).wo B.wd, regsL (decS v.1).rg B.n⟩ HOW.out (by rfl) w2.heap.size rfl (by rfl) (ouC_one _) _ (by show _ = (ouC _).toArray; unfold ouC; dsimp only; rw [wlL_len, HYN.out]) (by have := HO.out.2; unfold maxLen; omega) (by have := HO.out.2; rw [this]; exact hB51) H2.out.2.2.2.1 ?_
      intro v5 w5 ho5 hb5 hk5
      have H5 : Hid (OL w1 w5 G B bb hb qb tv kb mb vv (.slice (some ⟨ge, 0, none⟩) E.length ce) V E v5 (xs ++ [⟨some ⟨g, 0, none⟩, B.wd, ra, rc, wlL (decS v.1).wo B.wd, regsL (decS v.1).rg B.n⟩]) (t + 1)) := by
        obtain ⟨hx2, hW2, k2, hM2, hv⟩ := H2.out
        have kk : Keeps (fun y => w1.heap.size ≤ y) w2 w5 := ⟨hb5.os, hb5.tape, hb5.output, hb5.size, fun x hx hn => hb5.block x (Nat.lt_of_not_le hn)⟩
        refine ⟨ho5, by rw [List.length_append, HO.out.2]; rfl, fun x hx => ?_, fun j x hj => ?_, ⟨a2, hW2.b.keeps kk (fun y e hG => by have := HG.out.1 y hG; omega), hW2.k.keeps kk (fun y e hy => by have := HG.out.2 y hy; omega), hW2.d, hW2.c⟩, ?_⟩
        · have old : OuW w2 w1.heap.size x → OuW w5 w1.heap.size x := fun h => ⟨h.o1.kept hk5 (by decide), h.o2.kept hk5 (by decide), h.l1, h.l2⟩
          rcases List.mem_append.1 hx with e | e
          · exact old ((HO.out.1.x x e).keeps k2 (fun g' c' e' hb' e => by have := HG.out.1 g' e; omega))
          · rw [List.mem_singleton.1 e] at old ⊢; exact old hx2
        · by_cases hjl : j < xs.length
          · rw [List.getElem?_append_left hjl] at hj
            exact HO.out.1.i j x hj
          · have hj2 := (List.getElem?_eq_some_iff.1 hj).1
            rw [List.length_append, List.length_singleton] at hj2
            have hjt : j = xs.length := by omega
            subst hjt
            rw [List.getElem?_append_right (Nat.le_refl _), Nat.sub_self] at hj
            injection hj with hj
            subst hj
            exact ⟨k, v, by rw [HO.out.2]; exact HKE.out, hv, rfl, rfl⟩
        · have k1 := HO.out.1.k.trans k2
          exact ⟨hb5.os.trans k1.os, hb5.tape.trans k1.tape, hb5.output.trans k1.output, Nat.le_trans k1.size hb5.size, fun x hx hn => (hb5.block x hx).trans (k1.block x hx hn)⟩
      clear ho5 hb5 hk5 hB51
      go_wp2
      go_roundw
      case rel => exact ⟨t + 1, _, by go_num, by omega, H5.out⟩
      case measure => simp [intOf]; omega
    · obtain rfl : t = E.length := by omega
      have hxe : xs ≠ [] := fun e => by rw [e] at hxn; exact HE.out.2 (List.eq_nil_of_length_eq_zero hxn.symm)
      obtain ⟨gx, cx, hxx, -, -⟩ := owG_some hO.o hxe
      injection hxx with x1 x2 x3
      subst x1 x3
      have hs := sort_any wr w1.heap.size gx xc xs (by rw [hxn]; exact hO.o) hO.x hxe (by omega)
      rw [hxn] at hs
      have HSS : Hid (∀ _ : Unit, _) := fun _ => hs
      clear hs hO hxn hxe x2
      go_wp2_with fail
      refine (HSS.out ()).mono ?_
      rintro e w6 ⟨rfl, ys, hp, hin, hou, k6, hso⟩
      have H6 : Hid (Outs w w6 cs tl (.slice (some ⟨gx, 0, none⟩) E.length xc) ys) := by
        have hx := HX.out.2
        have hB := HX.out.1
        have hO := HO.out.1
        have z0 := HK0.out.2.2
        have b1 : Below w.heap.size w w1 := HK0.out.1.trans (hx.k.mono z0)
        have z1 : w.heap.size ≤ w1.heap.size := b1.size
        have b2 : Below w.heap.size w wr := b1.trans (hO.k.below z1 (fun y hy e => by have := hx.b y e; omega))
        refine ⟨hin, fun y hy => (hou y hy).down z1, b2.trans (k6.below b2.size (fun y hy e => by have e : w1.heap.size ≤ y := e; omega)), fun y hy => ?_, fun u hu => ?_, ?_, hso⟩
        · obtain ⟨j, hj⟩ := List.getElem?_of_mem (hp.mem_iff.1 hy)
          obtain ⟨k, v, h1, h2, h3, h4⟩ := hO.i j y hj
          have hk : k ∈ endsP (tsL B.ins B.n) V V.length := by rw [HE.out.1]; exact List.mem_of_getElem? h1
          obtain ⟨v', hv', he, _⟩ := ends_is hB hx.o hk
          rw [h2] at hv'
          injection hv' with hv'
          subst hv'
          exact ⟨v.1, he, by rw [h3, hB.w], by rw [h4, hB.n]⟩
        · obtain ⟨k, v, hk, hv, hvu⟩ := ends_all hB hx.o hu
          rw [HE.out.1] at hk
          obtain ⟨j, hj⟩ := List.getElem?_of_mem hk
          have hjl := (List.getElem?_eq_some_iff.1 hj).1
          have hjx' : j < xs.length := by rw [HO.out.2]; exact hjl
          have hjx : xs[j]? = some xs[j] := List.getElem?_eq_getElem hjx'
          obtain ⟨k', v', h1, h2, h3, h4⟩ := hO.i j _ hjx
          rw [hj] at h1
          injection h1 with h1
          subst h1
          rw [hv] at h2
          injection h2 with h2
          subst h2
          exact ⟨xs[j], hp.mem_iff.2 (List.mem_of_getElem? hjx), by rw [h3, hB.w, hvu], by rw [h4, hB.n, hvu]⟩
        · rw [hp.length_eq, HO.out.2]; omega
      clear hp hin hou k6 hso HSS
      go_wp2
      go_ret2
      exact ⟨_, ys, rfl, H6.out⟩
end Go.Proofs.YtdpebhdjcgiboaaGreat

namespace Go.Proofs.YtdpebhdjcgiboaaGreat
open Go.ChangeShapes Go.WideShapes Go.ChangeAt Go.RowKit Go.MuLone Go.RwLone
set_option linter.unusedVariables false
set_option maxRecDepth 100000
set_option maxHeartbeats 6400000
theorem kp_below {w w' : World} (h : Below w.heap.size w w') : Keeps (fun _ => False) w w' := ⟨h.os, h.tape, h.output, h.size, fun x hx _ => h.block x hx⟩
theorem viC_24 (v : Vi (List Int)) : (viC v)[24]? = some (.int .i64 (v.2.1 : Nat)) ∧ (viC v)[25]? = some (.int .i64 (v.2.2 : Nat)) := by
  have hl : (rowU (fixS v.1)).length = 24 := by simp [rowU, fixS]
  unfold viC
  constructor
  · rw [List.getElem?_append_right (by omega), hl]; rfl
  · rw [List.getElem?_append_right (by omega), hl]; rfl
theorem path_any (w : World) (kb bb mb : Nat) (vv ev : Value) (V : List (Vi (List Int))) (E : List Nat) (h : Wlk w kb bb mb vv ev V E) (T : Ts (List Int)) (s0 : List Int) (i j : Nat) (vo : Vo T s0 V i j) (k : Nat) (hk : k < V.length) (hlen : (pathP V V.length k).length ≤ 14) (hl : V.length ≤ 6103515625) :
    Calls Tryz.prog 48 #[.pointer (some ⟨kb, 0, none⟩), .int .i64 (k : Int)] w fun e w' => ∃ v, e = .returned v ∧ SeesP w' w'.heap.size v (wpk (pathP V V.length k)) ∧ Below w.heap.size w w' := by
  obtain ⟨gv, cv, hvv, -⟩ := visit_at h.v hk
  subst hvv
  have H : Hid (Wlk w kb bb mb (.slice (some ⟨gv, 0, none⟩) V.length cv) ev V E ∧ Vo T s0 V i j ∧ (pathP V V.length k).length ≤ 14) := ⟨h, vo, hlen⟩
  have HC : Hid (∀ (X : World) (m : Nat) (v : Vi (List Int)), Below w.heap.size w X → V[m]? = some v → X.cell? ⟨kb, 1, none⟩ = some (.slice (some ⟨gv, 0, none⟩) V.length cv) ∧ X.cell? ⟨gv, m * 26 + 24, none⟩ = some (.int .i64 (v.2.1 : Nat)) ∧ X.cell? ⟨gv, m * 26 + 25, none⟩ = some (.int .i64 (v.2.2 : Nat))) := fun X m v hb hv => by
    have hX := h.keeps (kp_below hb) (fun _ e => e.elim)
    have hm := (List.getElem?_eq_some_iff.1 hv).1
    obtain ⟨gv', cv', hvv', hrg'⟩ := visit_at hX.v hm
    injection hvv' with e1
    injection e1 with e1
    injection e1 with e1
    subst e1
    have hVi : V[m] = v := by
      rw [List.getElem?_eq_getElem hm] at hv
      injection hv
    rw [hVi] at hrg'
    exact ⟨(cell?_heap hX.k 1).trans rfl, hrg' 24 _ (viC_24 v).1, hrg' 25 _ (viC_24 v).2⟩
  clear h vo hlen
  go_enter Tryz.func48, Tryz.ntmps48
  go_wp2_with fail
  go_loopw [1, 5] (fun c1 c5 wr => ∃ (m : Nat) (rs : List Nat), c1 = .int .i64 (m : Int) ∧ m < V.length ∧ OwG pkC 110 3 wr w.heap.size c5 (wpk rs) ∧ pathP V V.length k = pathP V V.length m ++ rs.reverse ∧ Below w.heap.size w wr) (fun c1 _ _ => (intOf c1).toNat)
  case atStart => exact ⟨k, [], rfl, hk, OwG.nil _ _ _ _ _, by simp, Below.refl _ _⟩
  case round =>
    rename World => wr
    obtain ⟨m, rs, rfl, hm, ho, hp, hb⟩ := hrel
    obtain ⟨pa, pc, rfl⟩ := ho.form
    have HQ : Hid (OwG pkC 110 3 wr w.heap.size (.slice pa (wpk rs).length pc) (wpk rs) ∧ pathP V V.length k = pathP V V.length m ++ rs.reverse ∧ Below w.heap.size w wr) := ⟨ho, hp, hb⟩
    have hrs : rs.length ≤ 14 := by
      have := congrArg List.length hp
      rw [List.length_append, List.length_reverse] at this
      have := H.out.2.2
      omega
    clear ho hp hb
    obtain ⟨pn, hwl⟩ : ∃ pn, (wpk rs).length = pn := ⟨_, rfl⟩
    have HW : Hid ((wpk rs).length = pn ∧ pn ≤ 14) := ⟨hwl, by rw [← hwl]; simpa using hrs⟩
    rw [hwl] at HQ ⊢
    clear hwl hrs
    have m0 : (0 : Int) ≤ (m : Int) := Int.natCast_nonneg _
    have m1 : (m : Int) < (V.length : Int) := by omega
    by_cases h5 : 0 < m
    · have m2 : (m : Int) > 0 := by omega
      have hv : V[m]? = some V[m] := List.getElem?_eq_getElem hm
      obtain ⟨c1, c24, c25⟩ := HC.out wr m _ HQ.out.2.2 hv
      obtain ⟨v, hvv⟩ : ∃ v, V[m] = v := ⟨_, rfl⟩
      rw [hvv] at hv c24 c25
      have HV : Hid (V[m]? = some v) := hv
      clear hv hvv
      obtain ⟨f, who⟩ : ∃ f, v.2.1 = f := ⟨_, rfl⟩
      obtain ⟨wh, hwh⟩ : ∃ wh, v.2.2 = wh := ⟨_, rfl⟩
      have HF : Hid (v.2.1 = f ∧ v.2.2 = wh) := ⟨who, hwh⟩
      rw [who] at c24
      rw [hwh] at c25
      clear who hwh
      go_wp2_with (at_builtin; refine hideG ?_)
      change wpList _ _ _ _ _ _
      refine app_one (cs := pkC) (wr := wr) (by rfl) _ _ 26 110 (by rfl) Tryz.underlying26 infoPk rfl (by decide) (fun _ => rfl) w.heap.size _ (wpk rs) (1, (wh : Int), 1) HQ.out.1 (by rfl) wr.heap.size rfl (by rfl) (pkC_one _) _ rfl (by have := HW.out; unfold maxLen; omega) (by have := HW.out; omega) HQ.out.2.2.size ?_
      intro v5 w5 ho5 hb5 hk5
      obtain ⟨d1, d24, d25⟩ := HC.out w5 m v (HQ.out.2.2.trans hb5) HV.out
      rw [HF.out.1] at d24
      have H5 : Hid (OwG pkC 110 3 w5 w.heap.size v5 (wpk (rs ++ [wh])) ∧ Below w.heap.size w w5) := ⟨by rw [show wpk (rs ++ [wh]) = wpk rs ++ [(1, (wh : Int), 1)] by simp]; exact ho5, HQ.out.2.2.trans hb5⟩
      clear ho5 hb5 hk5 c1 c24 c25 d25
      go_wp2
      have hst := path_step H.out.2.1 HV.out h5
      rw [HF.out.1, HF.out.2] at hst
      obtain ⟨p0, _, hfm, _⟩ := H.out.2.1.f m v HV.out h5
      rw [HF.out.1] at hfm
      go_roundw
      case rel => exact ⟨f, rs ++ [wh], rfl, by omega, H5.out.1, by rw [HQ.out.2.1, hst]; simp, H5.out.2⟩
      case measure => simp [intOf]; omega
    · obtain rfl : m = 0 := by omega
      go_wp2_with fail
      refine (reverse_any wr w.heap.size _ (wpk rs) HQ.out.1 (by have := HW.out; omega)).mono ?_
      rintro e w6 ⟨rfl, s6, k6⟩
      have H6 : Hid (SeesP w6 w6.heap.size (.slice pa pn pc) (wpk (pathP V V.length k)) ∧ Below w.heap.size w w6) := by
        refine ⟨?_, HQ.out.2.2.trans (k6.below HQ.out.2.2.size (fun y hy e => by have e : w.heap.size ≤ y := e; omega))⟩
        have e0 : pathP V V.length 0 = [] := by cases V.length <;> rfl
        rw [HQ.out.2.1, e0, List.nil_append]
        have : (wpk rs).reverse = wpk rs.reverse := by simp [List.map_reverse]
        rw [← this]
        exact s6
      clear s6 k6
      go_wp2
      go_ret
      exact ⟨_, rfl, H6.out⟩
end Go.Proofs.YtdpebhdjcgiboaaGreat

namespace Go.Proofs.YtdpebhdjcgiboaaGreat
set_option linter.unusedSimpArgs false
open Go.ChangeShapes Go.WideShapes Go.ChangeAt Go.RowKit Go.MuLone Go.RwLone
set_option linter.unusedVariables false
set_option maxRecDepth 100000
set_option maxHeartbeats 6400000
theorem inG_up {α : Type} {cs : α → List Value} {w : World} {B C : Nat} {v : Value} {xs : List α} (h : InG cs w B v xs) (hc : B ≤ C) : InG cs w C v xs := by
  obtain ⟨ao, cap, e, h1, h2, h3⟩ := h
  refine ⟨ao, cap, e, h1, h2, fun j u hj => ?_⟩
  obtain ⟨b, off, e1, e2, e3⟩ := h3 j u hj
  exact ⟨b, off, e1, by omega, e3⟩
/-- Is this the outcome of that end? -/
def OutOf (cs : List Int) (tl : List (List I8)) (u X Y : List Int) : Prop := X = wlL (decS u).wo cs.length ∧ Y = regsL (decS u).rg tl.length
/-- In the midst of looking for an outcome. -/
def WL (w0 wr : World) (cs : List Int) (tl : List (List I8)) (G : Nat → Prop) (B : Bd) (bb hb qb : Nat) (tv : Value) (kb mb : Nat) (vv ev : Value) (V : List (Vi (List Int))) (E : List Nat) (X Y : List Int) (t : Nat) : Prop :=
  (∃ a, Wb wr G B bb hb qb tv a kb mb vv ev V E) ∧ Below w0.heap.size w0 wr ∧ ∀ (j k : Nat) (v : Vi (List Int)), j < t → E[j]? = some k → V[k]? = some v → ¬ OutOf cs tl v.1 X Y
/-- What Witness answers. -/
def Wits (w w' : World) (cs : List Int) (tl : List (List I8)) (X Y : List Int) (s : ByteArray) (er : Int) : Prop :=
  Below w.heap.size w w' ∧ ((er = 0 ∧ s.size ≤ 1000 ∧ ∃ u ws, EndS cs tl u ∧ OutOf cs tl u X Y ∧ wrd (tsL (insL tl) tl.length) ws (encS (begA cs tl).2) u ∧ dL s.data.toList = wpk ws) ∨ (er = 36 ∧ s = ⟨#[]⟩ ∧ ∀ u, EndS cs tl u → ¬ OutOf cs tl u X Y))
theorem witness_any (w : World) (C : Nat) (ca : Option Addr) (cc : Nat) (ta : Option Addr) (tc : Nat) (tvf : Nat → Value) (cs : List Int) (tl : List (List I8)) (h : LitG w C ca cc ta tc tvf cs tl) (hC : C ≤ w.heap.size) (hsd : soundP cs tl = true) (hco : csOk cs) (hio : ∀ l ∈ tl, ∀ x ∈ l, immOk x) (a1 : Option Addr) (d1 : Nat) (a2 : Option Addr) (d2 : Nat) (X Y : List Int) (h1 : InG wdC w C (.slice a1 X.length d1) X) (h2 : InG wdC w C (.slice a2 Y.length d2) Y) :
    Calls Tryz.prog 21 #[.agg (litC ca cs.length cc ta tl.length tc), .agg #[.slice a1 X.length d1, .slice a2 Y.length d2]] w fun e w' => ∃ s er, e = .returned (.tuple #[.string s, .int .i64 er]) ∧ Wits w w' cs tl X Y s er := by
  obtain ⟨hc4, hn4, -⟩ := sound_facts hsd
  obtain ⟨xn, hxn⟩ : ∃ xn, X.length = xn := ⟨_, rfl⟩
  obtain ⟨yn, hyn⟩ : ∃ yn, Y.length = yn := ⟨_, rfl⟩
  have HXY : Hid (X.length = xn ∧ Y.length = yn) := ⟨hxn, hyn⟩
  rw [hxn, hyn]
  have k0 : Keeps (fun _ => False) w ((w.alloc (.cells (litC ca cs.length cc ta tl.length tc) 49)).alloc (.cells #[.slice a1 xn d1, .slice a2 yn d2] 51)) := ((Keeps.refl _ _).alloc _).alloc _
  have hz0 : ((w.alloc (.cells (litC ca cs.length cc ta tl.length tc) 49)).alloc (.cells #[.slice a1 xn d1, .slice a2 yn d2] 51)).heap.size = w.heap.size + 2 := by rw [szAl, szAl]
  have e0 : ((w.alloc (.cells (litC ca cs.length cc ta tl.length tc) 49)).alloc (.cells #[.slice a1 xn d1, .slice a2 yn d2] 51)).heap[w.heap.size + 1]? = some (.cells #[.slice a1 xn d1, .slice a2 yn d2] 51) := heap_alloc_last _ _ _ (szAl _ _).symm
  have HL := explore_any ((w.alloc (.cells (litC ca cs.length cc ta tl.length tc) 49)).alloc (.cells #[.slice a1 xn d1, .slice a2 yn d2] 51)) C ca cc ta tc tvf cs tl (h.later (k0.below hC (fun _ _ e => e))) (by omega) hsd hco hio
  have HLL : Hid (∀ _ : Unit, _) := fun _ => HL
  have HK0 : Hid (Below w.heap.size w ((w.alloc (.cells (litC ca cs.length cc ta tl.length tc) 49)).alloc (.cells #[.slice a1 xn d1, .slice a2 yn d2] 51)) ∧ soundP cs tl = true ∧ ((w.alloc (.cells (litC ca cs.length cc ta tl.length tc) 49)).alloc (.cells #[.slice a1 xn d1, .slice a2 yn d2] 51)).heap.size = w.heap.size + 2 ∧ ((w.alloc (.cells (litC ca cs.length cc ta tl.length tc) 49)).alloc (.cells #[.slice a1 xn d1, .slice a2 yn d2] 51)).heap[w.heap.size + 1]? = some (.cells #[.slice a1 xn d1, .slice a2 yn d2] 51)) := ⟨k0.below (Nat.le_refl _) (fun _ _ e => e), hsd, hz0, e0⟩
  have HIN : Hid (InG wdC w C (.slice a1 X.length d1) X ∧ InG wdC w C (.slice a2 Y.length d2) Y) := ⟨h1, h2⟩
  clear h HL k0 hsd hco hio hz0 e0 h1 h2 hxn hyn
  go_enter Tryz.func21, Tryz.ntmps21
  go_wp2_with fail
  refine (HLL.out ()).mono ?_
  rintro e w1 ⟨kb, rfl, hE⟩
  clear HLL
  generalize (w.alloc (.cells (litC ca cs.length cc ta tl.length tc) 49)).alloc (.cells #[.slice a1 xn d1, .slice a2 yn d2] 51) = w0 at *
  obtain ⟨G, B, bb, hb, qb, tv, a, mb, vv, ev, V, hB, hx⟩ := hE
  have HX : Hid (BdIs B cs tl ∧ Ex w0 w1 cs tl G B bb hb qb tv a kb mb vv ev V V.length) := ⟨hB, hx⟩
  have hBn : 1 ≤ B.n ∧ B.n ≤ 4 := by rw [hB.n]; exact hn4
  have hBw : 1 ≤ B.wd ∧ B.wd ≤ 4 := by rw [hB.w]; exact hc4
  have hfew : V.length ≤ 6103515625 := by
    have := hx.o
    rw [hB.i, hB.n] at this
    exact few_all HK0.out.2.1 this
  obtain ⟨E, hEE⟩ : ∃ E, endsP (tsL B.ins B.n) V V.length = E := ⟨_, rfl⟩
  have hEn : E ≠ [] := by
    obtain ⟨k, v, hk, _⟩ := ends_all hB hx.o (end_some HK0.out.2.1 [])
    rw [hEE] at hk
    exact List.ne_nil_of_mem hk
  have hEl : E.length ≤ V.length := by rw [← hEE]; exact ends_len _ _ _
  have hwb := hx.h
  rw [hEE] at hwb
  obtain ⟨ge, ce, hev, -, -⟩ := owG_some hwb.k.e hEn
  subst hev
  have HE : Hid (endsP (tsL B.ins B.n) V V.length = E ∧ E ≠ []) := ⟨hEE, hEn⟩
  have HO0 : Hid (WL w0 w1 cs tl G B bb hb qb tv kb mb vv (.slice (some ⟨ge, 0, none⟩) E.length ce) V E X Y 0) := ⟨⟨a, hwb⟩, hx.k, fun j k v hj => by omega⟩
  have HS : Hid (∀ X' : World, Below w0.heap.size w0 X' → X'.cell? ⟨w.heap.size + 1, 0, none⟩ = some (.slice a1 xn d1) ∧ X'.cell? ⟨w.heap.size + 1, 1, none⟩ = some (.slice a2 yn d2)) := fun X' hb' => by
    have e1 := (hb'.block (w.heap.size + 1) (by have := HK0.out.2.2.1; omega)).trans HK0.out.2.2.2
    exact ⟨(cell?_heap e1 0).trans rfl, (cell?_heap e1 1).trans rfl⟩
  have c3 := (cell?_heap hwb.k.k 3).trans rfl
  clear hB hx hEE hEn hwb
  go_wp2_with fail
  clear c3
  go_loopw [23] (fun c wr => ∃ t : Nat, c = .int .i64 (t : Int) ∧ t ≤ E.length ∧ WL w0 wr cs tl G B bb hb qb tv kb mb vv (.slice (some ⟨ge, 0, none⟩) E.length ce) V E X Y t) (fun c _ => E.length - (intOf c).toNat)
  case atStart => exact ⟨0, rfl, Nat.zero_le _, HO0.out⟩
  case round =>
    rename World => wr
    obtain ⟨t, rfl, ht, hO⟩ := hrel
    have HO : Hid (WL w0 wr cs tl G B bb hb qb tv kb mb vv (.slice (some ⟨ge, 0, none⟩) E.length ce) V E X Y t) := hO
    have t0 : (0 : Int) ≤ (t : Int) := Int.natCast_nonneg _
    by_cases h5 : t < E.length
    · have t1 : (t : Int) < (E.length : Int) := by omega
      obtain ⟨ar, hW⟩ := hO.1
      have cE : wr.cell? ⟨ge, t, none⟩ = some (.int .i64 ((E[t] : Nat) : Int)) := by
        rw [World.ownsRow.cellAt hW.k.e t (by omega)]
        have := flat_get enC 1 (fun _ => rfl) E t h5 0 (by decide)
        rw [Nat.mul_one, Nat.add_zero] at this
        rw [this]
        rfl
      have HW : Hid (Wb wr G B bb hb qb tv ar kb mb vv (.slice (some ⟨ge, 0, none⟩) E.length ce) V E) := hW
      obtain ⟨k, hkE⟩ : ∃ k, E[t] = k := ⟨_, rfl⟩
      rw [hkE] at cE
      have HKE : Hid (E[t]? = some k) := by show _ = _; rw [List.getElem?_eq_getElem h5, hkE]
      have sx := HS.out wr.drew (hO.2.1.drew)
      clear hO hW hkE
      have hkm : k ∈ endsP (tsL B.ins B.n) V V.length := by rw [HE.out.1]; exact List.mem_of_getElem? HKE.out
      obtain ⟨v, hv, hvE, hvw⟩ := ends_is HX.out.1 HX.out.2.o hkm
      have HV : Hid (V[k]? = some v ∧ EndS cs tl v.1 ∧ wrd (tsL (insL tl) tl.length) (pathP V V.length k) (encS (begA cs tl).2) v.1) := ⟨hv, hvE, hvw⟩
      clear hkm hv hvE hvw
      go_wp2_with fail
      (refine wp_region_held_drew (S := (fun X' => X'.cell? ⟨w.heap.size + 1, 0, none⟩ = some (.slice a1 xn d1) ∧ X'.cell? ⟨w.heap.size + 1, 1, none⟩ = some (.slice a2 yn d2))) (by kernel_rfl) sx (fun hHeld => ?_); simp only [List.size_toArray, List.length_cons, List.length_nil, Nat.reduceAdd, Array.replicate_succ, Array.replicate_zero, List.push_toArray, List.append_toArray, List.nil_append, List.cons_append])
      clear sx cE
      refine rgT 0 (h := ?_)
      refine rgT 1 (h := ?_)
      refine rgT 3 (h := ?_)
      (refine rgS 2 (h := fun K hK => ?_); go_simp)
      refine (outcome_any wr.drew G B HX.out.1.ok bb hb qb tv ar kb mb vv _ V E (HW.out.still (Keeps.refl _ _).drew) hBn hBw k v HV.out.1 (HX.out.2.g v (List.mem_of_getElem? HV.out.1)) hfew).mono ?_
      rintro e w2 ⟨g, rv, rfl, o1, o2, ⟨a2', hW2⟩, k2⟩
      obtain ⟨ra, rc, hrv⟩ := o2.form
      subst hrv
      have hb2 : Below w0.heap.size w0 w2 := (HO.out.2.1.drew).trans (k2.below HO.out.2.1.drew.size (fun y hy e => by have := HX.out.2.b y e; omega))
      have hz0 := HK0.out.2.2.1
      have hbw : Below w.heap.size w w2 := HK0.out.1.trans (hb2.mono (by omega))
      have hM2 := hb2.size
      have i1 := inG_up (HIN.out.1.later (hbw.mono hC)) (show C ≤ w2.heap.size by omega)
      have i2 := inG_up (HIN.out.2.later (hbw.mono hC)) (show C ≤ w2.heap.size by omega)
      have hcp := compare_any w2 w2.heap.size (Nat.le_refl _) (some ⟨g, 0, none⟩) ra a1 a2 B.wd rc d1 d2 (wlL (decS v.1).wo B.wd) (regsL (decS v.1).rg B.n) X Y (by rw [wlL_len]; exact o1.in) o2.in i1 i2 (by rw [wlL_len]; omega) (by rw [regsL_len]; omega)
      rw [wlL_len, HXY.out.1, HXY.out.2] at hcp
      obtain ⟨rn, hrn⟩ : ∃ rn, (regsL (decS v.1).rg B.n).length = rn := ⟨_, rfl⟩
      obtain ⟨cz, hcz⟩ : ∃ cz, cmO (wlL (decS v.1).wo B.wd) (regsL (decS v.1).rg B.n) X Y = cz := ⟨_, rfl⟩
      rw [hrn, hcz] at hcp
      rw [hrn]
      have HCP : Hid (∀ _ : Unit, _) := fun _ => hcp
      have HCZ : Hid (cz = 0 ↔ OutOf cs tl v.1 X Y) := by
        show _ ↔ _
        rw [← hcz]
        unfold OutOf
        rw [← HX.out.1.w, ← HX.out.1.n]
        constructor
        · intro e
          have := cmO_ord.e (wlL (decS v.1).wo B.wd, regsL (decS v.1).rg B.n) (X, Y) e
          injection this with e1 e2
          exact ⟨e1.symm, e2.symm⟩
        · rintro ⟨e1, e2⟩
          rw [e1, e2]
          exact cmO_ord.r (wlL (decS v.1).wo B.wd, regsL (decS v.1).rg B.n)
      have H2 : Hid (Wb w2 G B bb hb qb tv a2' kb mb vv (.slice (some ⟨ge, 0, none⟩) E.length ce) V E ∧ Below w0.heap.size w0 w2) := ⟨hW2, hb2⟩
      clear o1 o2 hW2 k2 hb2 hz0 hbw hM2 i1 i2 hcp hrn hcz
      (refine hK.out _ _ (HS.out w2 H2.out.2) (fun hHeld => ?_); clear hK K; try simp only [Act.put, List.setIfInBounds_toArray, List.set_cons_zero, List.set_cons_succ])
      (refine rgS 4 (h := fun K hK => ?_); go_simp)
      refine (HCP.out ()).mono ?_
      rintro e w3 ⟨rfl, k3, -⟩
      have H3 : Hid (Wb w3 G B bb hb qb tv a2' kb mb vv (.slice (some ⟨ge, 0, none⟩) E.length ce) V E ∧ Below w0.heap.size w0 w3) := ⟨H2.out.1.still k3, H2.out.2.trans (k3.below H2.out.2.size (fun _ _ e => e))⟩
      clear k3 HCP
      (refine hK.out _ _ (HS.out w3 H3.out.2) (fun hHeld => ?_); clear hK K; try simp only [Act.put, List.setIfInBounds_toArray, List.set_cons_zero, List.set_cons_succ])
      by_cases hz : cz = 0
      · have HOO : Hid (OutOf cs tl v.1 X Y) := HCZ.out.1 hz
        clear HCZ
        subst hz
        refine rgT 5 (h := ?_)
        refine wpAnyH_done (by kernel_rfl) ?_ _
        clear hHeld
        clear hHeld
        have hlen : (pathP V V.length k).length ≤ 14 := word_ten HK0.out.2.1 HV.out.2.2
        have hkl := (List.getElem?_eq_some_iff.1 HV.out.1).1
        go_wp2_with fail
        refine (path_any w3 kb bb mb vv _ V E H3.out.1.k _ _ _ _ HX.out.2.o k hkl hlen hfew).mono ?_
        rintro e w4 ⟨pv, rfl, s4, b4⟩
        have hm4 : ∀ m ∈ pathP V V.length k, m < 4 := fun m hm => by
          have := wrd_mem _ HV.out.2.2 m hm
          have : m < tl.length := this
          omega
        have hen := encode_any pv (wpk (pathP V V.length k)) w4.heap.size w4 (Nat.le_refl _) s4 (fun p hp => by
          obtain ⟨m, hm, rfl⟩ := List.mem_map.1 hp
          have := hm4 m hm
          unfold wfP
          dsimp only
          omega) (by rw [List.length_map]; omega)
        rw [encA_word _ hm4] at hen
        have hdl := dL_word _ hm4
        have hss : (strOfNums (encB (wpk (pathP V V.length k)))).size ≤ 1000 := by
          rw [str_size]
          have := encB_len (wpk (pathP V V.length k))
          rw [List.length_map] at this
          omega
        obtain ⟨st, hst⟩ : ∃ st, strOfNums (encB (wpk (pathP V V.length k))) = st := ⟨_, rfl⟩
        rw [hst] at hen hdl hss
        have HEN : Hid (∀ _ : Unit, _) := fun _ => hen
        have H4 : Hid (Below w.heap.size w w4 ∧ st.size ≤ 1000 ∧ dL st.data.toList = wpk (pathP V V.length k)) := ⟨(HK0.out.1.trans (H3.out.2.mono (by have := HK0.out.2.2.1; omega))).trans (b4.mono (by have := H3.out.2.size; have := HK0.out.2.2.1; omega)), hss, hdl⟩
        clear hen hdl hss hst hm4 s4 b4
        go_wp2_with fail
        refine (HEN.out ()).mono ?_
        rintro e w5 ⟨rfl, b5⟩
        have H5 : Hid (Wits w w5 cs tl X Y st 0) := ⟨H4.out.1.trans (b5.mono H4.out.1.size), .inl ⟨rfl, H4.out.2.1, v.1, pathP V V.length k, HV.out.2.1, HOO.out, HV.out.2.2, H4.out.2.2⟩⟩
        clear b5 HEN
        go_wp2
        go_ret2
        exact ⟨_, _, rfl, H5.out⟩
      · have HZN : Hid (¬ OutOf cs tl v.1 X Y) := fun e => hz (HCZ.out.2 e)
        clear HCZ
        refine rgT 5 (h := ?_)
        refine wpAnyH_done (by kernel_rfl) ?_ _
        clear hHeld
        clear hHeld
        have HN : Hid (WL w0 w3 cs tl G B bb hb qb tv kb mb vv (.slice (some ⟨ge, 0, none⟩) E.length ce) V E X Y (t + 1)) := by
          refine ⟨⟨a2', H3.out.1⟩, H3.out.2, fun j k' v' hj hjk hv' => ?_⟩
          by_cases hjt : j < t
          · exact HO.out.2.2 j k' v' hjt hjk hv'
          · obtain rfl : j = t := by omega
            rw [HKE.out] at hjk
            injection hjk with hjk
            subst hjk
            rw [HV.out.1] at hv'
            injection hv' with hv'
            subst hv'
            exact HZN.out
        go_wp2
        go_roundw
        case rel => exact ⟨t + 1, by go_num, by omega, HN.out⟩
        case measure => simp [intOf]; omega
    · obtain rfl : t = E.length := by omega
      have HF : Hid (Wits w wr cs tl X Y ⟨#[]⟩ 36) := by
        refine ⟨HK0.out.1.trans (hO.2.1.mono (by have := HK0.out.2.2.1; omega)), .inr ⟨rfl, rfl, fun u hu => ?_⟩⟩
        obtain ⟨k, v, hk, hv, hvu⟩ := ends_all HX.out.1 HX.out.2.o hu
        rw [HE.out.1] at hk
        obtain ⟨j, hj⟩ := List.getElem?_of_mem hk
        rw [← hvu]
        exact hO.2.2 j k v (List.getElem?_eq_some_iff.1 hj).1 hj hv
      clear hO
      go_wp2
      go_ret2
      exact ⟨_, _, rfl, HF.out⟩
end Go.Proofs.YtdpebhdjcgiboaaGreat
