import Derived.Test.YtjceellpmopnkaaDoorMd8
import Derived.Test.YtjceellpmopnkaaDoorMf9
namespace Go.Proofs.YtjceellpmopnkaaDoor
set_option linter.unusedSimpArgs false
open Go.ChangeShapes Go.WideShapes Go.ChangeAt Go.RowKit
set_option linter.unusedVariables false
set_option maxRecDepth 100000
/-- What the document's DecodeManifest answers; Y: the file is that of a manifest. -/
def RmC (w : World) (b : ByteArray) (Y : Prop) (e : Ending) (w' : World) : Prop :=
  Below w.heap.size w w' ∧ ((∃ gen next upto ps v, MoYes b gen next upto ps ∧ e = .returned (.tuple #[.agg #[.int .i64 gen, .int .i64 next, .int .u64 upto, v], .int .i64 0]) ∧ ownP w' w.heap.size v ps) ∨ (¬ Y ∧ e = .returned (.tuple #[.agg #[.int .i64 0, .int .i64 0, .int .u64 0, .slice none 0 0], .int .i64 (if opE b mgB = 0 then 125 else opE b mgB)])))
theorem cu_step {s : ByteArray} {p q : Nat} {bad bad' : Bool} {v hi : Int} {F : Int → List Int} (hx : ∀ x, 0 ≤ x → x ≤ hi → bad = false → HasAt s p (F x) → v = x ∧ q = p + (F x).length ∧ bad' = false) {x : Int} {rest : List Int} (h0 : 0 ≤ x) (h1 : x ≤ hi) (h : bad = false ∧ HasAt s p (F x ++ rest)) : v = x ∧ bad' = false ∧ HasAt s q rest := by
  obtain ⟨e1, e2, e3⟩ := hx x h0 h1 h.1 h.2.left
  exact ⟨e1, e3, by rw [e2]; exact h.2.right⟩
theorem cu_last {s : ByteArray} {p q : Nat} {bad bad' : Bool} {v hi : Int} {F : Int → List Int} (hx : ∀ x, 0 ≤ x → x ≤ hi → bad = false → HasAt s p (F x) → v = x ∧ q = p + (F x).length ∧ bad' = false) {x : Int} (h0 : 0 ≤ x) (h1 : x ≤ hi) (h : bad = false ∧ HasAt s p (F x)) : v = x ∧ bad' = false := by
  obtain ⟨e1, e2, e3⟩ := hx x h0 h1 h.1 h.2
  exact ⟨e1, e3⟩
theorem Cu.fr {w w' : World} {C R : Nat} {s : ByteArray} {p : Nat} {bad : Bool} (h : Cu w C s p bad) (hf : Fr R w w') (hn : C ≠ R) : Cu w' C s p bad := (hf.rest C h.lt hn).trans h
theorem Mn4.set1 {W : World} {g : Nat} {a b c d : Value} (h : Mn4 W g a b c d) (v : Value) : Mn4 (W.setCell ⟨g, 1, none⟩ v) g a v c d := by
  unfold Mn4 at h ⊢
  simp [World.setCell, Array.getElem?_modify, h]
theorem Mn4.set2 {W : World} {g : Nat} {a b c d : Value} (h : Mn4 W g a b c d) (v : Value) : Mn4 (W.setCell ⟨g, 2, none⟩ v) g a b v d := by
  unfold Mn4 at h ⊢
  simp [World.setCell, Array.getElem?_modify, h]
/-- What stands while the document reads a manifest. -/
structure RfS (w : World) (C g B : Nat) (s : ByteArray) (gen next upto : Int) (W : World) (p : Nat) (bad : Bool) (v : Value) (ps : List PN) : Prop where
  bel : Below w.heap.size w W
  z : Mn4 W w.heap.size (.int .i64 0) (.int .i64 0) (.int .u64 0) (.slice none 0 0)
  cu : Cu W C s p bad
  hg : Mn4 W g (.int .i64 gen) (.int .i64 next) (.int .u64 upto) v
  own : ownP W B v ps
  r1 : w.heap.size < C
  r2 : w.heap.size < g
  n1 : C ≠ g
  b1 : C < B
  b2 : g < B
  b3 : B ≤ W.heap.size
theorem RfS.read {w : World} {C g B : Nat} {s : ByteArray} {gen next upto : Int} {W W' : World} {p q : Nat} {bad bad' : Bool} {v : Value} {ps : List PN} (h : RfS w C g B s gen next upto W p bad v ps) (hf : Fr C W W') (hr : Cu W' C s q bad') : RfS w C g B s gen next upto W' q bad' v ps :=
  ⟨h.bel.trans (hf.toBelow.mono (Nat.le_of_lt h.r1)), h.z.fr hf (by have := h.r1; omega), hr, h.hg.fr hf (Ne.symm h.n1), h.own.same (fun k hk hB => hf.rest k hk (by have := h.b1; omega)), h.r1, h.r2, h.n1, h.b1, h.b2, Nat.le_trans h.b3 hf.toBelow.size⟩
theorem RfS.put {w : World} {C g B : Nat} {s : ByteArray} {gen next upto : Int} {W : World} {p : Nat} {bad : Bool} {v : Value} {ps : List PN} (h : RfS w C g B s gen next upto W p bad v ps) (j : Nat) (u : Value) {gen' next' upto' : Int} (hm : Mn4 (W.setCell ⟨g, j, none⟩ u) g (.int .i64 gen') (.int .i64 next') (.int .u64 upto') v) : RfS w C g B s gen' next' upto' (W.setCell ⟨g, j, none⟩ u) p bad v ps := by
  have := h.r1
  have := h.r2
  have := h.b1
  have := h.b2
  exact ⟨h.bel.setCell (p := ⟨g, j, none⟩) (by simp only; omega) _, h.z.other (p := ⟨g, j, none⟩) _ (by simp only; omega), Cu.other (p := ⟨g, j, none⟩) h.cu _ h.n1, hm, h.own.same (fun k hk hB => Below.heap_setCell _ _ _ k (by simp only; omega)), h.r1, h.r2, h.n1, h.b1, h.b2, by simp; exact h.b3⟩
theorem RfS.app {w : World} {C g B : Nat} {s : ByteArray} {gen next upto : Int} {W W' : World} {p : Nat} {bad : Bool} {v v' : Value} {ps ps' : List PN} (h : RfS w C g B s gen next upto W p bad v ps) (ho : ownP W' B v' ps') (hb : Below B W W') : RfS w C g B s gen next upto (W'.setCell ⟨g, 3, none⟩ v') p bad v' ps' := by
  have := h.r1
  have := h.r2
  have := h.b1
  have := h.b2
  refine ⟨(h.bel.trans (hb.mono (by omega))).setCell (p := ⟨g, 3, none⟩) (by simp only; omega) _, (h.z.later hb (by omega)).other (p := ⟨g, 3, none⟩) _ (by simp only; omega), Cu.other (p := ⟨g, 3, none⟩) (h.cu.later hb h.b1) _ h.n1, (h.hg.later hb h.b2).set3 v', ho.same (fun k hk hB => Below.heap_setCell _ _ _ k (by simp only; omega)), h.r1, h.r2, h.n1, h.b1, h.b2, ?_⟩
  have := hb.size
  have := h.b3
  simp
  omega
theorem RfS.drew {w : World} {C g B : Nat} {s : ByteArray} {gen next upto : Int} {W : World} {p : Nat} {bad : Bool} {v : Value} {ps : List PN} (h : RfS w C g B s gen next upto W p bad v ps) : RfS w C g B s gen next upto W.drew p bad v ps :=
  ⟨h.bel.drew, h.z, h.cu, h.hg, h.own.same (fun _ _ _ => rfl), h.r1, h.r2, h.n1, h.b1, h.b2, h.b3⟩
theorem RfS.drewN {w : World} {C g B : Nat} {s : ByteArray} {gen next upto : Int} {W : World} {p : Nat} {bad : Bool} {v : Value} {ps : List PN} (h : RfS w C g B s gen next upto W p bad v ps) (n : Nat) : RfS w C g B s gen next upto (W.drewN n) p bad v ps := by
  induction n with
  | zero => exact h
  | succ n ih => exact ih.drew
/-- What keeps the blocks below B keeps all that stands. -/
theorem RfS.later {w : World} {C g B : Nat} {s : ByteArray} {gen next upto : Int} {W W' : World} {p : Nat} {bad : Bool} {v : Value} {ps : List PN} (h : RfS w C g B s gen next upto W p bad v ps) (hb : Below W.heap.size W W') : RfS w C g B s gen next upto W' p bad v ps :=
  ⟨h.bel.trans (hb.mono h.bel.size), h.z.later hb h.z.lt, h.cu.later hb h.cu.lt, h.hg.later hb h.hg.lt, h.own.later hb, h.r1, h.r2, h.n1, h.b1, h.b2, Nat.le_trans h.b3 hb.size⟩
theorem ownP.keep {w w' : World} {B : Nat} {v : Value} {xs : List PN} (h : ownP w B v xs) (hk : ∀ k, v.ownBlock = some k → w'.heap[k]? = w.heap[k]?) : ownP w' B v xs := by
  rcases h with ⟨h1, h2 | ⟨g, cap, cur, rfl, hb, hg, hr⟩⟩
  · exact ⟨h1, .inl h2⟩
  · exact ⟨h1, .inr ⟨g, cap, cur, rfl, hb, by rw [hk g rfl]; exact hg, hr⟩⟩
/-- The same, beside a pair that is being read, at the block q. -/
structure XfS (w : World) (C g B : Nat) (s : ByteArray) (gen next upto : Int) (v : Value) (ps : List PN) (q : Nat) (W : World) (p : Nat) (bad : Bool) (x : PN) : Prop where
  base : RfS w C g B s gen next upto W p bad v ps
  x : Pn8 W q (.int .i64 x.id) (.int .u64 x.lo) (.int .u64 x.hi) (.int .i64 x.rows) (.int .i64 x.gen) (.int .i64 x.gone) (.int .u32 x.ds) (.int .u32 x.es)
  q1 : g < q
  q2 : C < q
  q3 : ∀ k, v.ownBlock = some k → k ≠ q
theorem XfS.read {w : World} {C g B : Nat} {s : ByteArray} {gen next upto : Int} {v : Value} {ps : List PN} {q : Nat} {W W' : World} {p p' : Nat} {bad bad' : Bool} {x : PN} (h : XfS w C g B s gen next upto v ps q W p bad x) (hf : Fr C W W') (hr : Cu W' C s p' bad') : XfS w C g B s gen next upto v ps q W' p' bad' x :=
  ⟨h.base.read hf hr, h.x.fr hf (by have := h.q2; omega), h.q1, h.q2, h.q3⟩
theorem XfS.drew {w : World} {C g B : Nat} {s : ByteArray} {gen next upto : Int} {v : Value} {ps : List PN} {q : Nat} {W : World} {p : Nat} {bad : Bool} {x : PN} (h : XfS w C g B s gen next upto v ps q W p bad x) : XfS w C g B s gen next upto v ps q W.drew p bad x := ⟨h.base.drew, h.x, h.q1, h.q2, h.q3⟩
theorem XfS.put {w : World} {C g B : Nat} {s : ByteArray} {gen next upto : Int} {v : Value} {ps : List PN} {q : Nat} {W : World} {p : Nat} {bad : Bool} {x x' : PN} (h : XfS w C g B s gen next upto v ps q W p bad x) (j : Nat) (u : Value) (hx : Pn8 (W.setCell ⟨q, j, none⟩ u) q (.int .i64 x'.id) (.int .u64 x'.lo) (.int .u64 x'.hi) (.int .i64 x'.rows) (.int .i64 x'.gen) (.int .i64 x'.gone) (.int .u32 x'.ds) (.int .u32 x'.es)) : XfS w C g B s gen next upto v ps q (W.setCell ⟨q, j, none⟩ u) p bad x' := by
  have := h.base.r1
  have := h.base.r2
  have := h.q1
  have := h.q2
  exact ⟨⟨h.base.bel.setCell (p := ⟨q, j, none⟩) (by simp only; omega) _, h.base.z.other (p := ⟨q, j, none⟩) _ (by simp only; omega), Cu.other (p := ⟨q, j, none⟩) h.base.cu _ (by simp only; omega), h.base.hg.other (p := ⟨q, j, none⟩) _ (by simp only; omega), h.base.own.keep (fun k hk => Below.heap_setCell _ _ _ k (h.q3 k hk)), h.base.r1, h.base.r2, h.base.n1, h.base.b1, h.base.b2, by simp; exact h.base.b3⟩, hx, h.q1, h.q2, h.q3⟩
theorem Pn8.set1 {W : World} {g : Nat} {a b c d e f x y : Value} (h : Pn8 W g a b c d e f x y) (v : Value) : Pn8 (W.setCell ⟨g, 1, none⟩ v) g a v c d e f x y := by
  unfold Pn8 at h ⊢
  simp [World.setCell, Array.getElem?_modify, h]
theorem drop_getD (ps : List PN) (k : Nat) (d : PN) (h : k < ps.length) : ps.drop k = ps.getD k d :: ps.drop (k + 1) ∧ ps.getD k d = ps[k] := by
  have e : ps.getD k d = ps[k] := by simp [List.getD, List.getElem?_eq_getElem h]
  exact ⟨by rw [e]; exact List.drop_eq_getElem_cons h, e⟩
theorem ret_mn1 {fn : Func} {p u : Tmp} (h : fn.results = #[.cell p 25, .tmp u]) (tmps : Array Value) (w : World) (a b c d : Value) (g : Nat) (hp : tmps.getD p undef = .pointer (some ⟨g, 0, none⟩)) (hg : Mn4 w g a b c d) :
    (results fn tmps).run Tryd.prog w = .ok (.tuple #[.agg #[a, b, c, d], tmps.getD u undef]) w := by
  have hp' : tmps[p]?.getD undef = .pointer (some ⟨g, 0, none⟩) := by simpa using hp
  unfold Mn4 at hg
  simp [results, h, hp', asAddr, run_loadVar_row w g 25 25 _ (0, 0) _ hg Tryd.underlying25 rfl infoMn]
set_option maxHeartbeats 25600000 in
theorem refDec_any (w : World) (b : ByteArray) (hs : b.size ≤ 1125899906842624) (Y : Prop) (g0 n0 u0 : Int) (ps0 : List PN) (hY : Y → MoYes b g0 n0 u0 ps0) : Calls Tryd.prog 10 #[.string b] w (RmC w b Y) := by
  have hb0 : Below w.heap.size w (w.alloc (.cells #[.int .i64 0, .int .i64 0, .int .u64 0, .slice none 0 0] 25)) := (Below.refl _ _).alloc (Nat.le_refl _) _
  have HB0 : Hid _ := hb0
  have HZ0 : Hid (Mn4 (w.alloc (.cells #[.int .i64 0, .int .i64 0, .int .u64 0, .slice none 0 0] 25)) w.heap.size (.int .i64 0) (.int .i64 0) (.int .u64 0) (.slice none 0 0)) := heap_alloc_new w _
  have HO : Hid (∀ _ : Unit, _) := fun _ => opened_any b mgB (w.alloc (.cells #[.int .i64 0, .int .i64 0, .int .u64 0, .slice none 0 0] 25)) rfl hs
  have HY : Hid (Y → MoYes b g0 n0 u0 ps0) := hY
  have hsz : (b.extract 8 (b.size - 4)).size ≤ 1125899906842624 := by rw [ByteArray.size_extract]; omega
  clear hb0 hY
  go_enter Tryd.func10, Tryd.ntmps10
  go_wp2_with fail
  generalize hw0 : w.alloc (.cells #[.int .i64 0, .int .i64 0, .int .u64 0, .slice none 0 0] 25) = y0 at *
  clear hw0
  refine (HO.out ()).mono ?_
  rintro e w1 ⟨hb1, hor⟩
  have HZ1 : Hid (Mn4 w1 w.heap.size (.int .i64 0) (.int .i64 0) (.int .u64 0) (.slice none 0 0)) := HZ0.out.later hb1 HZ0.out.lt
  have HB1 : Hid (Below w.heap.size w w1) := HB0.out.trans (hb1.mono HB0.out.size)
  have hyz := HZ0.out.lt
  clear hb1 HO HB0 HZ0
  rcases hor.symm with ⟨hne, rfl⟩ | ⟨h0, C, rfl, hR, hrd⟩
  · have HNE : Hid (opE b mgB ≠ 0) := hne
    have hnd : (opE b mgB != 0) = true := by rw [bne_iff_ne]; exact hne
    have HNY : Hid (¬ Y) := fun y => hne (HY.out y).1
    have z0 : w1.cell? ⟨w.heap.size, 0, none⟩ = some (.int .i64 0) := HZ1.out.cell 0
    have z1 : w1.cell? ⟨w.heap.size, 1, none⟩ = some (.int .i64 0) := HZ1.out.cell 1
    have z2 : w1.cell? ⟨w.heap.size, 2, none⟩ = some (.int .u64 0) := HZ1.out.cell 2
    have z3 : w1.cell? ⟨w.heap.size, 3, none⟩ = some (.slice none 0 0) := HZ1.out.cell 3
    have o0 := HZ1.out.free 0
    have o1 := HZ1.out.free 1
    have o2 := HZ1.out.free 2
    have o3 := HZ1.out.free 3
    clear hor hne
    generalize hoe : opE b mgB = oe at *
    have HOE : Hid (opE b mgB = oe) := hoe
    clear hoe
    go_wp2
    refine bodyPost_ret (ret_mn1 rfl _ _ _ _ _ _ w.heap.size (by rfl) (HZ1.out.setAll _ _ _ _)) rfl ⟨?_, .inr ⟨HNY.out, ?_⟩⟩
    · exact (((HB1.out.setCell (p := ⟨w.heap.size, 0, none⟩) (Nat.le_refl _) _).setCell (p := ⟨w.heap.size, 1, none⟩) (Nat.le_refl _) _).setCell (p := ⟨w.heap.size, 2, none⟩) (Nat.le_refl _) _).setCell (p := ⟨w.heap.size, 3, none⟩) (Nat.le_refl _) _
    · show _ = Ending.returned (.tuple #[_, .int .i64 (if opE b mgB = 0 then 125 else opE b mgB)])
      rw [HOE.out, if_neg HNE.out]
      rfl
  · have HOP : Hid (opE b mgB = 0) := h0
    have hzc : w.heap.size < C := Nat.lt_of_lt_of_le hyz hR
    have HC1 : Hid (Cu w1 C (b.extract 8 (b.size - 4)) 0 false) := hrd
    have HY0 : Hid (Y → mayM g0 n0 u0 ps0 ∧ (∀ p ∈ ps0, p.wf) ∧ 0 ≤ u0 ∧ HasAt (b.extract 8 (b.size - 4)) 0 (encM g0 n0 u0 ps0)) := fun y => ⟨(HY.out y).2.2.1, (HY.out y).2.2.2.1, (HY.out y).2.2.2.2, (HY.out y).has⟩
    clear hor h0 hrd hR hyz
    generalize hss : b.extract 8 (b.size - 4) = s at *
    clear hss
    have HN1 : Hid (∀ _ : Unit, _) := fun _ => smallU C s 0 false w1 HC1.out (Nat.zero_le _) hsz
    go_wp2_with fail
    refine (HN1.out ()).mono ?_
    rintro e w2 ⟨hf, x1, p1, bad1, rfl, hcu, lb1, ub1, hp1, hx⟩
    have HY1 : Hid (Y → x1 = g0 ∧ bad1 = false ∧ HasAt s p1 (uvB n0 ++ (uvB u0 ++ (uvB ps0.length ++ encPs 0 ps0)))) := fun y => by
      obtain ⟨⟨⟨g1, g2⟩, _⟩, _, _, hh⟩ := HY0.out y
      exact cu_step hx (by omega) (by omega) ⟨rfl, hh⟩
    have hba : Below w2.heap.size w2 (w2.alloc (.cells #[.int .i64 x1, .int .i64 0, .int .u64 0, .slice none 0 0] 25)) := (Below.refl _ _).alloc (Nat.le_refl _) _
    have hC2 := hcu.lt
    have HS2 : Hid (RfS w C w2.heap.size (w2.heap.size + 1) s x1 0 0 (w2.alloc (.cells #[.int .i64 x1, .int .i64 0, .int .u64 0, .slice none 0 0] 25)) p1 bad1 (.slice none 0 0) []) := ⟨(HB1.out.trans (hf.toBelow.mono (Nat.le_of_lt hzc))).trans (hba.mono (Nat.le_trans HB1.out.size hf.toBelow.size)), (HZ1.out.fr hf (by omega)).later hba (by have := (HZ1.out.fr hf (by omega)).lt; omega), hcu.later hba hC2, heap_alloc_new w2 _, ownP_nil _ _, hzc, by omega, by omega, by omega, by omega, by simp⟩
    clear hba hf hcu hx HN1 HC1 HB1 HZ1 
    go_wp2_with fail
    generalize hya : w2.alloc (.cells #[.int .i64 x1, .int .i64 0, .int .u64 0, .slice none 0 0] 25) = y2 at *
    generalize hgg : w2.heap.size = g at *
    clear hya hgg hC2
    have HN2 : Hid (∀ _ : Unit, _) := fun _ => smallU C s p1 bad1 y2 HS2.out.cu hp1 hsz
    refine (HN2.out ()).mono ?_
    rintro e w3 ⟨hf, x2, p2, bad2, rfl, hcu, lb2, ub2, hp2, hx⟩
    have HY2 : Hid (Y → x1 = g0 ∧ x2 = n0 ∧ bad2 = false ∧ HasAt s p2 (uvB u0 ++ (uvB ps0.length ++ encPs 0 ps0))) := fun y => by
      obtain ⟨⟨_, ⟨m1, m2⟩, _⟩, _, _, _⟩ := HY0.out y
      obtain ⟨e1, hh⟩ := HY1.out y
      exact ⟨e1, cu_step hx (by omega) (by omega) hh⟩
    have hS3 := HS2.out.read hf hcu
    have c1 : w3.cell? ⟨g, 1, none⟩ = some (.int .i64 0) := hS3.hg.cell 1
    have f1 := hS3.hg.free 1
    have HS3 : Hid (RfS w C g (g + 1) s x1 x2 0 (w3.setCell ⟨g, 1, none⟩ (.int .i64 x2)) p2 bad2 (.slice none 0 0) []) := hS3.put 1 _ (hS3.hg.set1 _)
    clear hf hcu hx HN2 HS2 HY1 hS3 hp1
    go_wp2_with fail
    generalize hya : w3.setCell ⟨g, 1, none⟩ (.int .i64 x2) = y3 at *
    clear hya c1 f1
    have HN3 : Hid (∀ _ : Unit, _) := fun _ => numberU C s p2 bad2 y3 HS3.out.cu hp2 hsz
    refine (HN3.out ()).mono ?_
    rintro e w4 ⟨hf, x3, p3, bad3, rfl, hcu, lb3, ub3, hp3, hx⟩
    have HY3 : Hid (Y → x1 = g0 ∧ x2 = n0 ∧ x3 = u0 ∧ bad3 = false ∧ HasAt s p3 (uvB ps0.length ++ encPs 0 ps0)) := fun y => by
      obtain ⟨⟨_, _, m1, _⟩, _, m2, _⟩ := HY0.out y
      obtain ⟨e1, e2, hh⟩ := HY2.out y
      exact ⟨e1, e2, cu_step hx (by omega) (by omega) hh⟩
    have hS4 := HS3.out.read hf hcu
    have c2 : w4.cell? ⟨g, 2, none⟩ = some (.int .u64 0) := hS4.hg.cell 2
    have f2 := hS4.hg.free 2
    have HS4 : Hid (RfS w C g (g + 1) s x1 x2 x3 (w4.setCell ⟨g, 2, none⟩ (.int .u64 x3)) p3 bad3 (.slice none 0 0) []) := hS4.put 2 _ (hS4.hg.set2 _)
    clear hf hcu hx HN3 HS3 HY2 hS4 hp2
    go_wp2_with fail
    generalize hya : w4.setCell ⟨g, 2, none⟩ (.int .u64 x3) = y4 at *
    clear hya c2 f2
    have HN4 : Hid (∀ _ : Unit, _) := fun _ => smallU C s p3 bad3 y4 HS4.out.cu hp3 hsz
    refine (HN4.out ()).mono ?_
    rintro e w5 ⟨hf, x4, p4, bad4, rfl, hcu, lb4, ub4, hp4, hx⟩
    have HY4 : Hid (Y → x1 = g0 ∧ x2 = n0 ∧ x3 = u0 ∧ x4 = ps0.length ∧ bad4 = false ∧ HasAt s p4 (encPs 0 ps0)) := fun y => by
      obtain ⟨⟨_, _, _, m1, _⟩, _, m2, _⟩ := HY0.out y
      obtain ⟨e1, e2, e3, hh⟩ := HY3.out y
      exact ⟨e1, e2, e3, cu_step hx (by omega) (by omega) hh⟩
    have HS5 : Hid (RfS w C g (g + 1) s x1 x2 x3 w5 p4 bad4 (.slice none 0 0) []) := HS4.out.read hf hcu
    clear hf hcu hx HN4 HS4 HY3 hp3
    obtain ⟨n, rfl⟩ := Int.eq_ofNat_of_zero_le lb4
    go_wp2_with fail
    go_loopw [8, 9] (fun h i wr => ∃ (k p : Nat) (bad : Bool) (last : Int) (v : Value) (ps : List PN), k ≤ n ∧ i = .int .i64 k ∧ h = .int .u64 last ∧ 0 ≤ last ∧ last ≤ 18446744073709551615 ∧ p ≤ s.size ∧ ps.length = k ∧ (∀ q ∈ ps, q.wf) ∧ RfS w C g (g + 1) s x1 x2 x3 wr p bad v ps ∧ (Y → ps = ps0.take k ∧ last = lastP ps0 k ∧ bad = false ∧ HasAt s p (encPs last (ps0.drop k)))) (fun _ i _ => n - (intOf i).toNat)
    case atStart => exact ⟨0, p4, bad4, 0, .slice none 0 0, [], by omega, rfl, rfl, by omega, by omega, hp4, rfl, (fun _ h => by cases h), HS5.out, fun y => ⟨rfl, rfl, (HY4.out y).2.2.2.2.1, (HY4.out y).2.2.2.2.2⟩⟩
    case round =>
      obtain ⟨k, p, bad, last, v, ps, hk, rfl, rfl, hl0, hl1, hps, hlen, hwf, hS, hyy⟩ := hrel
      have HSk : Hid (RfS w C g (g + 1) s x1 x2 x3 wr p bad v ps) := hS
      have HWF : Hid (∀ q ∈ ps, q.wf) := hwf
      have HLN : Hid (ps.length = k) := hlen
      have HYk : Hid (Y → ps = ps0.take k ∧ last = lastP ps0 k ∧ bad = false ∧ HasAt s p (encPs last (ps0.drop k))) := hyy
      clear hS hwf hlen hyy HS5
      have cb : wr.cell? ⟨C, 2, none⟩ = some (.bool bad) := HSk.out.cu.cell 2
      by_cases hgo : k < n ∧ bad = false
      · obtain ⟨hlt, rfl⟩ := hgo
        have HYP : Hid (Y → mayL g0 n0 u0 (ps0.getD k ⟨0, 0, 0, 0, 0, 0, 0, 0⟩) ∧ last ≤ (ps0.getD k ⟨0, 0, 0, 0, 0, 0, 0, 0⟩).lo ∧ (ps0.getD k ⟨0, 0, 0, 0, 0, 0, 0, 0⟩).wf ∧ n0 ≤ 100000000 ∧ g0 ≤ 99999999) := fun y => by
          have hkl : k < ps0.length := by have := (HY4.out y).2.2.2.1; omega
          obtain ⟨⟨⟨_, a2⟩, ⟨_, a3⟩, _, _, hok⟩, hw, _⟩ := HY0.out y
          rw [(drop_getD ps0 k _ hkl).2]
          obtain ⟨_, h2, h3⟩ := hok k hkl
          exact ⟨h3, by rw [(HYk.out y).2.1]; exact h2, hw _ (List.getElem_mem hkl), a3, a2⟩
        have HYn : Hid (Y → ps ++ [ps0.getD k ⟨0, 0, 0, 0, 0, 0, 0, 0⟩] = ps0.take (k + 1) ∧ (ps0.getD k ⟨0, 0, 0, 0, 0, 0, 0, 0⟩).hi = lastP ps0 (k + 1)) := fun y => by
          have hkl : k < ps0.length := by have := (HY4.out y).2.2.2.1; omega
          rw [(drop_getD ps0 k _ hkl).2, lastP_succ hkl, (HYk.out y).1]
          exact ⟨(List.take_succ_eq_append_getElem hkl).symm, rfl⟩
        have HY1 : Hid (Y → HasAt s p (uvB (ps0.getD k ⟨0, 0, 0, 0, 0, 0, 0, 0⟩).id ++ (uvB ((ps0.getD k ⟨0, 0, 0, 0, 0, 0, 0, 0⟩).lo - last) ++ (uvB ((ps0.getD k ⟨0, 0, 0, 0, 0, 0, 0, 0⟩).hi - (ps0.getD k ⟨0, 0, 0, 0, 0, 0, 0, 0⟩).lo) ++ (uvB (ps0.getD k ⟨0, 0, 0, 0, 0, 0, 0, 0⟩).rows ++ (uvB (ps0.getD k ⟨0, 0, 0, 0, 0, 0, 0, 0⟩).gen ++ (uvB (ps0.getD k ⟨0, 0, 0, 0, 0, 0, 0, 0⟩).gone ++ (fxB 4 (ps0.getD k ⟨0, 0, 0, 0, 0, 0, 0, 0⟩).ds ++ (fxB 4 (ps0.getD k ⟨0, 0, 0, 0, 0, 0, 0, 0⟩).es ++ encPs (ps0.getD k ⟨0, 0, 0, 0, 0, 0, 0, 0⟩).hi (ps0.drop (k + 1))))))))))) := fun y => by
          have hkl : k < ps0.length := by have := (HY4.out y).2.2.2.1; omega
          have := (HYk.out y).2.2.2
          rw [(drop_getD ps0 k ⟨0, 0, 0, 0, 0, 0, 0, 0⟩ hkl).1, encPs, encP] at this
          simp only [List.append_assoc] at this
          exact this
        generalize ps0.getD k ⟨0, 0, 0, 0, 0, 0, 0, 0⟩ = P at *
        generalize hDD : ps0.drop (k + 1) = D at *
        have HDD : Hid (ps0.drop (k + 1) = D) := hDD
        clear hDD
        have HN1 : Hid (∀ _ : Unit, _) := fun _ => smallU C s p false wr HSk.out.cu hps hsz
        go_wp2_with fail
        refine (HN1.out ()).mono ?_
        rintro e v1 ⟨hf, a1, q1, d1, rfl, hcu, la1, ua1, hq1, hx⟩
        have HE1 : Hid (Y → a1 = P.id) := fun y => by
          obtain ⟨⟨m1, m2, _⟩, _, _, _⟩ := HYP.out y
          exact (cu_step hx (by omega) (by omega) ⟨rfl, HY1.out y⟩).1
        have HY2 : Hid (Y → d1 = false ∧ HasAt s q1 _) := fun y => (cu_step hx (by have := (HYP.out y).1.1; omega) (by have := (HYP.out y).1.2.1; have := (HYP.out y).2.2.2.1; omega) ⟨rfl, HY1.out y⟩).2
        have hS1 := HSk.out.read hf hcu
        have hba : Below v1.heap.size v1 (v1.alloc (.cells #[.int .i64 a1, .int .u64 0, .int .u64 0, .int .i64 0, .int .i64 0, .int .i64 0, .int .u32 0, .int .u32 0] 36)) := (Below.refl _ _).alloc (Nat.le_refl _) _
        have hb3 := hS1.b3
        have hb1 := hS1.b1
        have HS1 : Hid (XfS w C g (g + 1) s x1 x2 x3 v ps v1.heap.size (v1.alloc (.cells #[.int .i64 a1, .int .u64 0, .int .u64 0, .int .i64 0, .int .i64 0, .int .i64 0, .int .u32 0, .int .u32 0] 36)) q1 d1 ⟨a1, 0, 0, 0, 0, 0, 0, 0⟩) := ⟨hS1.later hba, heap_alloc_new v1 _, by omega, by omega, fun k hk => by have := (hS1.own.own k hk).2; omega⟩
        clear hf hcu hx hba hb3 hb1 hS1 HN1 HSk HYk HY1 hps cb
        go_wp2_with fail
        generalize hya : v1.alloc (.cells #[.int .i64 a1, .int .u64 0, .int .u64 0, .int .i64 0, .int .i64 0, .int .i64 0, .int .u32 0, .int .u32 0] 36) = y1 at *
        generalize hgg : v1.heap.size = q at *
        clear hya hgg
        have HN2 : Hid (∀ _ : Unit, _) := fun _ => numberU C s q1 d1 y1 HS1.out.base.cu hq1 hsz
        refine (HN2.out ()).mono ?_
        rintro e v2 ⟨hf, a2, q2, d2, rfl, hcu, la2, ua2, hq2, hx⟩
        have HE2 : Hid (Y → IntKind.u64.wrap (last + a2) = P.lo) := fun y => by
          obtain ⟨_, h2, hw, _⟩ := HYP.out y
          have := hw.lo1
          have e := (cu_step hx (by omega) (by omega) (HY2.out y)).1
          rw [IntKind.wrap_u64]
          omega
        have HY3 : Hid (Y → d2 = false ∧ HasAt s q2 _) := fun y => (cu_step hx (by have := (HYP.out y).2.1; omega) (by have := (HYP.out y).2.1; have := (HYP.out y).2.2.1.lo1; omega) (HY2.out y)).2
        have hL1 : 0 ≤ IntKind.u64.wrap (last + a2) ∧ IntKind.u64.wrap (last + a2) ≤ 18446744073709551615 := by rw [IntKind.wrap_u64]; omega
        have HL1 : Hid _ := hL1
        have hS2 := HS1.out.read hf hcu
        have c1 : v2.cell? ⟨q, 1, none⟩ = some (.int .u64 0) := hS2.x.cell 1
        have f1 := hS2.x.free 1
        have HS2 : Hid (XfS w C g (g + 1) s x1 x2 x3 v ps q (v2.setCell ⟨q, 1, none⟩ (.int .u64 (IntKind.u64.wrap (last + a2)))) q2 d2 ⟨a1, IntKind.u64.wrap (last + a2), 0, 0, 0, 0, 0, 0⟩) := hS2.put 1 _ (Pn8.set1 hS2.x _)
        clear hf hcu hx hS2 HN2 HS1 HY2 hq1 hL1
        go_wp2_with fail
        generalize hya : v2.setCell ⟨q, 1, none⟩ (.int .u64 (IntKind.u64.wrap (last + a2))) = y2 at *
        generalize hgg : IntKind.u64.wrap (last + a2) = L1 at *
        clear hya hgg c1 f1
        have e1 : y2.cell? ⟨q, 1, none⟩ = some (.int .u64 L1) := HS2.out.x.cell 1
        have HN3 : Hid (∀ _ : Unit, _) := fun _ => numberU C s q2 d2 y2.drew HS2.out.drew.base.cu hq2 hsz
        (refine wp_region_held_drew (S := (fun W => W.cell? ⟨q, 1, none⟩ = some (.int .u64 L1))) (by kernel_rfl) e1 (fun hHeld => ?_); simp only [List.size_toArray, List.length_cons, List.length_nil, Nat.reduceAdd, Array.replicate_succ, Array.replicate_zero, List.push_toArray, List.append_toArray, List.nil_append, List.cons_append])
        (refine tk0 (v := ?_) (by kernel_rfl) (by kernel_rfl) (by kernel_rfl) (fun _ _ _ h => h) (Or.inl ⟨by rfl, ?_⟩) (by assumption) ?_; rotate_left; (focus (intro w hSw; (try dsimp only at hSw); go_simp; (try first | (rw [dif_pos (by omega)]; simp only [Result.andThen_ok]) | rw [if_pos (by omega)]); (try with_reducible rfl); done)); try simp only [Act.put, List.setIfInBounds_toArray, List.set_cons_zero, List.set_cons_succ])
        (refine tk1 (v := ?_) (by kernel_rfl) (by kernel_rfl) (by kernel_rfl) (fun _ _ _ h => h) (Or.inl ⟨by rfl, ?_⟩) (by assumption) ?_; rotate_left; (focus (intro w hSw; (try dsimp only at hSw); go_simp; (try first | (rw [dif_pos (by omega)]; simp only [Result.andThen_ok]) | rw [if_pos (by omega)]); (try with_reducible rfl); done)); try simp only [Act.put, List.setIfInBounds_toArray, List.set_cons_zero, List.set_cons_succ])
        (refine tk2 (v := ?_) (by kernel_rfl) (by kernel_rfl) (by kernel_rfl) (fun _ _ _ h => h) (Or.inl ⟨by rfl, ?_⟩) (by assumption) ?_; rotate_left; (focus (intro w hSw; (try dsimp only at hSw); go_simp; (try first | (rw [dif_pos (by omega)]; simp only [Result.andThen_ok]) | rw [if_pos (by omega)]); (try with_reducible rfl); done)); try simp only [Act.put, List.setIfInBounds_toArray, List.set_cons_zero, List.set_cons_succ])
        (refine wpAnyH_ready (rs := [3]) (by kernel_rfl) (by simp) ?_; refine ar3 (fun K hK => ?_) AllReadyH.nil; go_simp)
        refine (HN3.out ()).mono ?_
        rintro e v3 ⟨hf, a3, q3, d3, rfl, hcu, la3, ua3, hq3, hx⟩
        have HE3 : Hid (Y → IntKind.u64.wrap (L1 + a3) = P.hi) := fun y => by
          obtain ⟨hm, h2, hw, _⟩ := HYP.out y
          have := hw.hi1
          have := hw.lo0
          have := hm.2.2.1
          have e := (cu_step hx (by omega) (by omega) (HY3.out y)).1
          have e2 := HE2.out y
          rw [IntKind.wrap_u64]
          omega
        have HY4' : Hid (Y → d3 = false ∧ HasAt s q3 _) := fun y => (cu_step hx (by have := (HYP.out y).1.2.2.1; omega) (by have := (HYP.out y).2.2.1.hi1; have := (HYP.out y).2.2.1.lo0; omega) (HY3.out y)).2
        have HL2 : Hid (0 ≤ IntKind.u64.wrap (L1 + a3) ∧ IntKind.u64.wrap (L1 + a3) ≤ 18446744073709551615) := by show _ ∧ _; rw [IntKind.wrap_u64]; omega
        have hS3 := HS2.out.drew.read hf hcu
        have e2 : v3.cell? ⟨q, 1, none⟩ = some (.int .u64 L1) := hS3.x.cell 1
        have c2 : v3.cell? ⟨q, 2, none⟩ = some (.int .u64 0) := hS3.x.cell 2
        have f2 := hS3.x.free 2
        have HS3 : Hid (XfS w C g (g + 1) s x1 x2 x3 v ps q (v3.setCell ⟨q, 2, none⟩ (.int .u64 (IntKind.u64.wrap (L1 + a3)))) q3 d3 ⟨a1, L1, IntKind.u64.wrap (L1 + a3), 0, 0, 0, 0, 0⟩) := hS3.put 2 _ (Pn8.set2 hS3.x _)
        have e3 : (v3.setCell ⟨q, 2, none⟩ (.int .u64 (IntKind.u64.wrap (L1 + a3)))).cell? ⟨q, 1, none⟩ = some (.int .u64 L1) := HS3.out.x.cell 1
        clear hf hcu hx hS3 HN3 HS2 HY3 hq2
        go_wp2_with fail
        (refine hK.out _ _ e2 (fun hHeld => ?_); clear hK K; try simp only [Act.put, List.setIfInBounds_toArray, List.set_cons_zero, List.set_cons_succ])
        (refine tk4 (v := ?_) (by kernel_rfl) (by kernel_rfl) (by kernel_rfl) (fun _ _ _ h => h) (Or.inl ⟨by rfl, ?_⟩) (by assumption) ?_; rotate_left; (focus (intro w hSw; (try dsimp only at hSw); go_simp; (try first | (rw [dif_pos (by omega)]; simp only [Result.andThen_ok]) | rw [if_pos (by omega)]); (try with_reducible rfl); done)); try simp only [Act.put, List.setIfInBounds_toArray, List.set_cons_zero, List.set_cons_succ])
        (refine tk5 (v := ?_) (by kernel_rfl) (by kernel_rfl) (by kernel_rfl) (fun _ _ _ h => h) (Or.inl ⟨by rfl, ?_⟩) (by assumption) ?_; rotate_left; (focus (intro w hSw; (try dsimp only at hSw); go_simp; (try first | (rw [dif_pos (by omega)]; simp only [Result.andThen_ok]) | rw [if_pos (by omega)]); (try with_reducible rfl); done)); try simp only [Act.put, List.setIfInBounds_toArray, List.set_cons_zero, List.set_cons_succ])
        (refine wpAnyH_ready (rs := [6]) (by kernel_rfl) (by simp) ?_; refine ar6 (fun K hK => ?_) AllReadyH.nil; go_simp)
        (refine hK.out _ _ e3 (fun hHeld => ?_); clear hK K; try simp only [Act.put, List.setIfInBounds_toArray, List.set_cons_zero, List.set_cons_succ])
        refine wpAnyH_done (by kernel_rfl) ?_ _
        generalize hya : v3.setCell ⟨q, 2, none⟩ (.int .u64 (IntKind.u64.wrap (L1 + a3))) = y3 at *
        generalize hgg : IntKind.u64.wrap (L1 + a3) = L2 at *
        clear hya hgg c2 f2 e1 e2 e3 hHeld
        have HN4 : Hid (∀ _ : Unit, _) := fun _ => smallU C s q3 d3 y3 HS3.out.base.cu hq3 hsz
        go_wp2_with fail
        refine (HN4.out ()).mono ?_
        rintro e v4 ⟨hf, a4, q4, d4, rfl, hcu, la4, ua4, hq4, hx⟩
        have hst : Y → a4 = P.rows ∧ d4 = false ∧ HasAt s q4 _ := fun y => cu_step hx (by have hw := (HYP.out y).2.2.1; have hm := (HYP.out y).1; obtain ⟨m1, m2, m3, m4, m5, m6, m7, m8, m9, m10, _, _⟩ := hm; obtain ⟨w1, w2, w3, w4, w5, w6, w7, w8, w9, w10, w11, w12, w13, w14, w15, w16⟩ := hw; have := (HYP.out y).2.2.2; omega) (by have hw := (HYP.out y).2.2.1; have hm := (HYP.out y).1; obtain ⟨m1, m2, m3, m4, m5, m6, m7, m8, m9, m10, _, _⟩ := hm; obtain ⟨w1, w2, w3, w4, w5, w6, w7, w8, w9, w10, w11, w12, w13, w14, w15, w16⟩ := hw; have := (HYP.out y).2.2.2; omega) (HY4'.out y)
        have HE4 : Hid (Y → a4 = P.rows) := fun y => (hst y).1
        have HYs4 : Hid (Y → d4 = false ∧ HasAt s q4 _) := fun y => (hst y).2
        have hS4 := HS3.out.read hf hcu
        have c4 : v4.cell? ⟨q, 3, none⟩ = some (.int .i64 0) := hS4.x.cell 3
        have f4 := hS4.x.free 3
        have HS4 : Hid (XfS w C g (g + 1) s x1 x2 x3 v ps q (v4.setCell ⟨q, 3, none⟩ (.int .i64 a4)) q4 d4 ⟨a1, L1, L2, a4, 0, 0, 0, 0⟩) := hS4.put 3 _ (Pn8.set3 hS4.x _)
        clear hf hcu hx hst hS4 HN4 HS3 HY4' hq3
        go_wp2_with fail
        generalize hya : v4.setCell ⟨q, 3, none⟩ (.int .i64 a4) = y4 at *
        clear hya c4 f4
        have HN5 : Hid (∀ _ : Unit, _) := fun _ => smallU C s q4 d4 y4 HS4.out.base.cu hq4 hsz
        go_wp2_with fail
        refine (HN5.out ()).mono ?_
        rintro e v5 ⟨hf, a5, q5, d5, rfl, hcu, la5, ua5, hq5, hx⟩
        have hst : Y → a5 = P.gen ∧ d5 = false ∧ HasAt s q5 _ := fun y => cu_step hx (by have hw := (HYP.out y).2.2.1; have hm := (HYP.out y).1; obtain ⟨m1, m2, m3, m4, m5, m6, m7, m8, m9, m10, _, _⟩ := hm; obtain ⟨w1, w2, w3, w4, w5, w6, w7, w8, w9, w10, w11, w12, w13, w14, w15, w16⟩ := hw; have := (HYP.out y).2.2.2; omega) (by have hw := (HYP.out y).2.2.1; have hm := (HYP.out y).1; obtain ⟨m1, m2, m3, m4, m5, m6, m7, m8, m9, m10, _, _⟩ := hm; obtain ⟨w1, w2, w3, w4, w5, w6, w7, w8, w9, w10, w11, w12, w13, w14, w15, w16⟩ := hw; have := (HYP.out y).2.2.2; omega) (HYs4.out y)
        have HE5 : Hid (Y → a5 = P.gen) := fun y => (hst y).1
        have HYs5 : Hid (Y → d5 = false ∧ HasAt s q5 _) := fun y => (hst y).2
        have hS5 := HS4.out.read hf hcu
        have c5 : v5.cell? ⟨q, 4, none⟩ = some (.int .i64 0) := hS5.x.cell 4
        have f5 := hS5.x.free 4
        have HS5 : Hid (XfS w C g (g + 1) s x1 x2 x3 v ps q (v5.setCell ⟨q, 4, none⟩ (.int .i64 a5)) q5 d5 ⟨a1, L1, L2, a4, a5, 0, 0, 0⟩) := hS5.put 4 _ (Pn8.set4 hS5.x _)
        clear hf hcu hx hst hS5 HN5 HS4 HYs4 hq4
        go_wp2_with fail
        generalize hya : v5.setCell ⟨q, 4, none⟩ (.int .i64 a5) = y5 at *
        clear hya c5 f5
        have HN6 : Hid (∀ _ : Unit, _) := fun _ => smallU C s q5 d5 y5 HS5.out.base.cu hq5 hsz
        go_wp2_with fail
        refine (HN6.out ()).mono ?_
        rintro e v6 ⟨hf, a6, q6, d6, rfl, hcu, la6, ua6, hq6, hx⟩
        have hst : Y → a6 = P.gone ∧ d6 = false ∧ HasAt s q6 _ := fun y => cu_step hx (by have hw := (HYP.out y).2.2.1; have hm := (HYP.out y).1; obtain ⟨m1, m2, m3, m4, m5, m6, m7, m8, m9, m10, _, _⟩ := hm; obtain ⟨w1, w2, w3, w4, w5, w6, w7, w8, w9, w10, w11, w12, w13, w14, w15, w16⟩ := hw; have := (HYP.out y).2.2.2; omega) (by have hw := (HYP.out y).2.2.1; have hm := (HYP.out y).1; obtain ⟨m1, m2, m3, m4, m5, m6, m7, m8, m9, m10, _, _⟩ := hm; obtain ⟨w1, w2, w3, w4, w5, w6, w7, w8, w9, w10, w11, w12, w13, w14, w15, w16⟩ := hw; have := (HYP.out y).2.2.2; omega) (HYs5.out y)
        have HE6 : Hid (Y → a6 = P.gone) := fun y => (hst y).1
        have HYs6 : Hid (Y → d6 = false ∧ HasAt s q6 _) := fun y => (hst y).2
        have hS6 := HS5.out.read hf hcu
        have c6 : v6.cell? ⟨q, 5, none⟩ = some (.int .i64 0) := hS6.x.cell 5
        have f6 := hS6.x.free 5
        have HS6 : Hid (XfS w C g (g + 1) s x1 x2 x3 v ps q (v6.setCell ⟨q, 5, none⟩ (.int .i64 a6)) q6 d6 ⟨a1, L1, L2, a4, a5, a6, 0, 0⟩) := hS6.put 5 _ (Pn8.set5 hS6.x _)
        clear hf hcu hx hst hS6 HN6 HS5 HYs5 hq5
        go_wp2_with fail
        generalize hya : v6.setCell ⟨q, 5, none⟩ (.int .i64 a6) = y6 at *
        clear hya c6 f6
        have HN7 : Hid (∀ _ : Unit, _) := fun _ => fixedU C s q6 d6 y6 HS6.out.base.cu hq6 hsz
        go_wp2_with fail
        refine (HN7.out ()).mono ?_
        rintro e v7 ⟨hf, a7, q7, d7, rfl, hcu, la7, ua7, hq7, hx⟩
        have hst : Y → a7 = P.ds ∧ d7 = false ∧ HasAt s q7 _ := fun y => cu_step hx (by have hw := (HYP.out y).2.2.1; have hm := (HYP.out y).1; obtain ⟨m1, m2, m3, m4, m5, m6, m7, m8, m9, m10, _, _⟩ := hm; obtain ⟨w1, w2, w3, w4, w5, w6, w7, w8, w9, w10, w11, w12, w13, w14, w15, w16⟩ := hw; have := (HYP.out y).2.2.2; omega) (by have hw := (HYP.out y).2.2.1; have hm := (HYP.out y).1; obtain ⟨m1, m2, m3, m4, m5, m6, m7, m8, m9, m10, _, _⟩ := hm; obtain ⟨w1, w2, w3, w4, w5, w6, w7, w8, w9, w10, w11, w12, w13, w14, w15, w16⟩ := hw; have := (HYP.out y).2.2.2; omega) (HYs6.out y)
        have HE7 : Hid (Y → a7 = P.ds) := fun y => (hst y).1
        have HYs7 : Hid (Y → d7 = false ∧ HasAt s q7 _) := fun y => (hst y).2
        have hS7 := HS6.out.read hf hcu
        have c7 : v7.cell? ⟨q, 6, none⟩ = some (.int .u32 0) := hS7.x.cell 6
        have f7 := hS7.x.free 6
        have HS7 : Hid (XfS w C g (g + 1) s x1 x2 x3 v ps q (v7.setCell ⟨q, 6, none⟩ (.int .u32 a7)) q7 d7 ⟨a1, L1, L2, a4, a5, a6, a7, 0⟩) := hS7.put 6 _ (Pn8.set6 hS7.x _)
        clear hf hcu hx hst hS7 HN7 HS6 HYs6 hq6
        go_wp2_with fail
        generalize hya : v7.setCell ⟨q, 6, none⟩ (.int .u32 a7) = y7 at *
        clear hya c7 f7
        have HN8 : Hid (∀ _ : Unit, _) := fun _ => fixedU C s q7 d7 y7 HS7.out.base.cu hq7 hsz
        go_wp2_with fail
        refine (HN8.out ()).mono ?_
        rintro e v8 ⟨hf, a8, q8, d8, rfl, hcu, la8, ua8, hq8, hx⟩
        have hst : Y → a8 = P.es ∧ d8 = false ∧ HasAt s q8 _ := fun y => cu_step hx (by have hw := (HYP.out y).2.2.1; have hm := (HYP.out y).1; obtain ⟨m1, m2, m3, m4, m5, m6, m7, m8, m9, m10, _, _⟩ := hm; obtain ⟨w1, w2, w3, w4, w5, w6, w7, w8, w9, w10, w11, w12, w13, w14, w15, w16⟩ := hw; have := (HYP.out y).2.2.2; omega) (by have hw := (HYP.out y).2.2.1; have hm := (HYP.out y).1; obtain ⟨m1, m2, m3, m4, m5, m6, m7, m8, m9, m10, _, _⟩ := hm; obtain ⟨w1, w2, w3, w4, w5, w6, w7, w8, w9, w10, w11, w12, w13, w14, w15, w16⟩ := hw; have := (HYP.out y).2.2.2; omega) (HYs7.out y)
        have HE8 : Hid (Y → a8 = P.es) := fun y => (hst y).1
        have HYs8 : Hid (Y → d8 = false ∧ HasAt s q8 _) := fun y => (hst y).2
        have hS8 := HS7.out.read hf hcu
        have c8 : v8.cell? ⟨q, 7, none⟩ = some (.int .u32 0) := hS8.x.cell 7
        have f8 := hS8.x.free 7
        have k3 : v8.cell? ⟨g, 3, none⟩ = some v := hS8.base.hg.cell 3
        have hqg : q ≠ g := by have := hS8.q1; omega
        have hgv : g < v8.heap.size := hS8.base.hg.lt
        have r0 : v8.cell? ⟨q, 0, none⟩ = some (.int .i64 a1) := hS8.x.cell 0
        have r1 : v8.cell? ⟨q, 1, none⟩ = some (.int .u64 L1) := hS8.x.cell 1
        have r2 : v8.cell? ⟨q, 2, none⟩ = some (.int .u64 L2) := hS8.x.cell 2
        have r3 : v8.cell? ⟨q, 3, none⟩ = some (.int .i64 a4) := hS8.x.cell 3
        have r4 : v8.cell? ⟨q, 4, none⟩ = some (.int .i64 a5) := hS8.x.cell 4
        have r5 : v8.cell? ⟨q, 5, none⟩ = some (.int .i64 a6) := hS8.x.cell 5
        have r6 : v8.cell? ⟨q, 6, none⟩ = some (.int .u32 a7) := hS8.x.cell 6
        have HS8 : Hid (XfS w C g (g + 1) s x1 x2 x3 v ps q (v8.setCell ⟨q, 7, none⟩ (.int .u32 a8)) q8 d8 ⟨a1, L1, L2, a4, a5, a6, a7, a8⟩) := hS8.put 7 _ (Pn8.set7 hS8.x _)
        clear hf hcu hx hst hS8 HN8 HS7 HYs7 hq7
        have HXE : Hid (Y → (⟨a1, L1, L2, a4, a5, a6, a7, a8⟩ : PN) = P) := fun y => by
          rw [HE1.out y, HE2.out y, HE3.out y, HE4.out y, HE5.out y, HE6.out y, HE7.out y, HE8.out y]
        have HXW : Hid (PN.wf ⟨a1, L1, L2, a4, a5, a6, a7, a8⟩) := by
          have l1 := HL1.out
          have l2 := HL2.out
          exact ⟨by simp only; omega, by simp only; omega, l1.1, l1.2, l2.1, l2.2, by simp only; omega, by simp only; omega, by simp only; omega, by simp only; omega, by simp only; omega, by simp only; omega, la7, ua7, la8, ua8⟩
        clear HE1 HE2 HE3 HE4 HE5 HE6 HE7 HE8 HL1
        obtain ⟨ao, cap, rfl, -, -⟩ := HS8.out.base.own.slice
        have HLen : Hid ((ps.length + 1) * 56 ≤ 140737488355328) := by have := HLN.out; show _ ≤ _; omega
        go_wp2_with (at_builtin; refine hideG ?_)
        change wpList _ _ _ _ _ _
        refine app_pn (by rfl) _ _ (by rfl) (g + 1) _ ps ⟨a1, L1, L2, a4, a5, a6, a7, a8⟩ HS8.out.base.own (by rfl) v8.heap.size (by simp) (by rfl) HLen.out (by simp; omega) ?_
        intro v' w' ho' hb' hk'
        obtain ⟨a', n', c', rfl⟩ := ho'.isSlice
        have HS9 : Hid _ := HS8.out.base.app ho' hb'
        have k4 : w'.cell? ⟨g, 3, none⟩ = some (.slice ao ps.length cap) := (HS8.out.base.hg.later hb' (by omega)).cell 3
        have k5 := (HS8.out.base.hg.later hb' (by omega)).free 3
        have HL2' : Hid _ := HL2
        have HYe : Hid (Y → ps ++ [⟨a1, L1, L2, a4, a5, a6, a7, a8⟩] = ps0.take (k + 1) ∧ L2 = lastP ps0 (k + 1) ∧ d8 = false ∧ HasAt s q8 (encPs L2 (ps0.drop (k + 1)))) := fun y => by
          rw [HDD.out]
          have e := HXE.out y
          have e2 : L2 = P.hi := congrArg PN.hi e
          rw [e, e2]
          exact ⟨(HYn.out y).1, (HYn.out y).2, HYs8.out y⟩
        clear ho' hb' hk' HS8 k3 c8 f8
        go_wp2
        go_roundw
        case rel => exact ⟨k + 1, q8, d8, L2, _, ps ++ [⟨a1, L1, L2, a4, a5, a6, a7, a8⟩], by omega, by go_num, rfl, HL2.out.1, HL2.out.2, hq8, by rw [List.length_append, HLN.out]; rfl, (fun y hy => by rcases List.mem_append.1 hy with h | h; exact HWF.out _ h; rw [List.mem_singleton.1 h]; exact HXW.out), HS9.out, HYe.out⟩
        case measure => simp [intOf]; omega
      · have HYF : Hid (Y → bad = false ∧ mayM x1 x2 x3 ps ∧ sealM mgM (encM x1 x2 x3 ps) = b) := fun y => by
          obtain ⟨h1, _, h3, _⟩ := HYk.out y
          obtain ⟨e1, e2, e3, e4, _⟩ := HY4.out y
          have hkn : ¬ k < n := fun h => hgo ⟨h, h3⟩
          have hps : ps = ps0 := by rw [h1, List.take_of_length_le (by omega)]
          rw [e1, e2, e3, hps]
          exact ⟨h3, (HY0.out y).1, (HY.out y).seal⟩
        obtain ⟨ao, cap, rfl, -, -⟩ := HSk.out.own.slice
        clear HYk
        by_cases hlt : k < n
        · have hbt : bad = true := by
            cases bad
            · exact absurd ⟨hlt, rfl⟩ hgo
            · rfl
          subst hbt
          have HNY : Hid (¬ Y) := fun y => by have := (HYF.out y).1; cases this
          clear hgo HYF
          have c0 : wr.cell? ⟨g, 0, none⟩ = some (.int .i64 x1) := HSk.out.hg.cell 0
          have c1 : wr.cell? ⟨g, 1, none⟩ = some (.int .i64 x2) := HSk.out.hg.cell 1
          have c2 : wr.cell? ⟨g, 2, none⟩ = some (.int .u64 x3) := HSk.out.hg.cell 2
          have c3 : wr.cell? ⟨g, 3, none⟩ = some (.slice ao ps.length cap) := HSk.out.hg.cell 3
          have HEn : Hid (∀ _ : Unit, _) := fun _ => refEnc_any wr x1 x2 x3 ao cap ps HSk.out.own.sees HWF.out lb3
          go_wp2_with fail
          refine (HEn.out ()).mono ?_
          rintro e w6 ⟨hme, hmn, hb6⟩
          have HS6 : Hid (RfS w C g (g + 1) s x1 x2 x3 w6 p true (.slice ao ps.length cap) ps) := HSk.out.later hb6
          clear hb6 HEn HSk c0 c1 c2 c3 cb
          have cb : w6.cell? ⟨C, 2, none⟩ = some (.bool true) := HS6.out.cu.cell 2
          have c0 : w6.cell? ⟨g, 0, none⟩ = some (.int .i64 x1) := HS6.out.hg.cell 0
          have c1 : w6.cell? ⟨g, 1, none⟩ = some (.int .i64 x2) := HS6.out.hg.cell 1
          have c2 : w6.cell? ⟨g, 2, none⟩ = some (.int .u64 x3) := HS6.out.hg.cell 2
          have c3 : w6.cell? ⟨g, 3, none⟩ = some (.slice ao ps.length cap) := HS6.out.hg.cell 3
          have z0 : w6.cell? ⟨w.heap.size, 0, none⟩ = some (.int .i64 0) := HS6.out.z.cell 0
          have z1 : w6.cell? ⟨w.heap.size, 1, none⟩ = some (.int .i64 0) := HS6.out.z.cell 1
          have z2 : w6.cell? ⟨w.heap.size, 2, none⟩ = some (.int .u64 0) := HS6.out.z.cell 2
          have z3 : w6.cell? ⟨w.heap.size, 3, none⟩ = some (.slice none 0 0) := HS6.out.z.cell 3
          have o0 := HS6.out.z.free 0
          have o1 := HS6.out.z.free 1
          have o2 := HS6.out.z.free 2
          have o3 := HS6.out.z.free 3
          have hzg := HS6.out.r2
          have hzn : w.heap.size ≠ g := by omega
          by_cases hm : mayM x1 x2 x3 ps
          · obtain rfl := hme hm
            clear hme hmn hm
            generalize sealM mgM (encM x1 x2 x3 ps) = sl at *
            go_wp2
            refine bodyPost_ret (ret_mn1 rfl _ _ _ _ _ _ w.heap.size (by rfl) (HS6.out.z.setAll _ _ _ _)) rfl ⟨?_, .inr ⟨HNY.out, ?_⟩⟩
            · exact (((HS6.out.bel.setCell (p := ⟨w.heap.size, 0, none⟩) (Nat.le_refl _) _).setCell (p := ⟨w.heap.size, 1, none⟩) (Nat.le_refl _) _).setCell (p := ⟨w.heap.size, 2, none⟩) (Nat.le_refl _) _).setCell (p := ⟨w.heap.size, 3, none⟩) (Nat.le_refl _) _
            · show _ = Ending.returned (.tuple #[_, .int .i64 (if opE b mgB = 0 then 125 else opE b mgB)])
              rw [if_pos HOP.out]
              rfl
          · obtain rfl := hmn hm
            clear hme hmn hm
            go_wp2
            refine bodyPost_ret (ret_mn1 rfl _ _ _ _ _ _ w.heap.size (by rfl) (HS6.out.z.setAll _ _ _ _)) rfl ⟨?_, .inr ⟨HNY.out, ?_⟩⟩
            · exact (((HS6.out.bel.setCell (p := ⟨w.heap.size, 0, none⟩) (Nat.le_refl _) _).setCell (p := ⟨w.heap.size, 1, none⟩) (Nat.le_refl _) _).setCell (p := ⟨w.heap.size, 2, none⟩) (Nat.le_refl _) _).setCell (p := ⟨w.heap.size, 3, none⟩) (Nat.le_refl _) _
            · show _ = Ending.returned (.tuple #[_, .int .i64 (if opE b mgB = 0 then 125 else opE b mgB)])
              rw [if_pos HOP.out]
              rfl
        · clear hgo
          cases bad
          · skip
            have c0 : wr.cell? ⟨g, 0, none⟩ = some (.int .i64 x1) := HSk.out.hg.cell 0
            have c1 : wr.cell? ⟨g, 1, none⟩ = some (.int .i64 x2) := HSk.out.hg.cell 1
            have c2 : wr.cell? ⟨g, 2, none⟩ = some (.int .u64 x3) := HSk.out.hg.cell 2
            have c3 : wr.cell? ⟨g, 3, none⟩ = some (.slice ao ps.length cap) := HSk.out.hg.cell 3
            have HEn : Hid (∀ _ : Unit, _) := fun _ => refEnc_any wr x1 x2 x3 ao cap ps HSk.out.own.sees HWF.out lb3
            go_wp2_with fail
            refine (HEn.out ()).mono ?_
            rintro e w6 ⟨hme, hmn, hb6⟩
            have HS6 : Hid (RfS w C g (g + 1) s x1 x2 x3 w6 p false (.slice ao ps.length cap) ps) := HSk.out.later hb6
            clear hb6 HEn HSk c0 c1 c2 c3 cb
            have cb : w6.cell? ⟨C, 2, none⟩ = some (.bool false) := HS6.out.cu.cell 2
            have c0 : w6.cell? ⟨g, 0, none⟩ = some (.int .i64 x1) := HS6.out.hg.cell 0
            have c1 : w6.cell? ⟨g, 1, none⟩ = some (.int .i64 x2) := HS6.out.hg.cell 1
            have c2 : w6.cell? ⟨g, 2, none⟩ = some (.int .u64 x3) := HS6.out.hg.cell 2
            have c3 : w6.cell? ⟨g, 3, none⟩ = some (.slice ao ps.length cap) := HS6.out.hg.cell 3
            have z0 : w6.cell? ⟨w.heap.size, 0, none⟩ = some (.int .i64 0) := HS6.out.z.cell 0
            have z1 : w6.cell? ⟨w.heap.size, 1, none⟩ = some (.int .i64 0) := HS6.out.z.cell 1
            have z2 : w6.cell? ⟨w.heap.size, 2, none⟩ = some (.int .u64 0) := HS6.out.z.cell 2
            have z3 : w6.cell? ⟨w.heap.size, 3, none⟩ = some (.slice none 0 0) := HS6.out.z.cell 3
            have o0 := HS6.out.z.free 0
            have o1 := HS6.out.z.free 1
            have o2 := HS6.out.z.free 2
            have o3 := HS6.out.z.free 3
            have hzg := HS6.out.r2
            have hzn : w.heap.size ≠ g := by omega
            by_cases hm : mayM x1 x2 x3 ps
            · obtain rfl := hme hm
              have HMM : Hid (mayM x1 x2 x3 ps) := hm
              clear hme hmn hm
              have hbq := bytes_beq (sealM mgM (encM x1 x2 x3 ps)) b
              by_cases hse : sealM mgM (encM x1 x2 x3 ps) = b
              · rw [decide_eq_true hse] at hbq
                have HYm : Hid (MoYes b x1 x2 x3 ps) := MoYes.of HOP.out HMM.out HWF.out lb3 hse
                clear hse HYF
                generalize sealM mgM (encM x1 x2 x3 ps) = sl at *
                go_wp2
                refine bodyPost_ret (ret_mn1 rfl _ _ _ _ _ _ w.heap.size (by rfl) (HS6.out.z.setAll _ _ _ _)) rfl ⟨?_, .inl ⟨x1, x2, x3, ps, _, HYm.out, rfl, ?_⟩⟩
                · exact (((HS6.out.bel.setCell (p := ⟨w.heap.size, 0, none⟩) (Nat.le_refl _) _).setCell (p := ⟨w.heap.size, 1, none⟩) (Nat.le_refl _) _).setCell (p := ⟨w.heap.size, 2, none⟩) (Nat.le_refl _) _).setCell (p := ⟨w.heap.size, 3, none⟩) (Nat.le_refl _) _
                · refine (HS6.out.own.same fun k hk hB => ?_).mono (by omega)
                  have hne : k ≠ w.heap.size := by omega
                  exact (Below.heap_setCell _ _ _ k hne).trans ((Below.heap_setCell _ _ _ k hne).trans ((Below.heap_setCell _ _ _ k hne).trans (Below.heap_setCell _ _ _ k hne)))
              · rw [decide_eq_false hse] at hbq
                have HNY : Hid (¬ Y) := fun y => hse (HYF.out y).2.2
                clear hse HYF
                generalize sealM mgM (encM x1 x2 x3 ps) = sl at *
                go_wp2
                refine bodyPost_ret (ret_mn1 rfl _ _ _ _ _ _ w.heap.size (by rfl) (HS6.out.z.setAll _ _ _ _)) rfl ⟨?_, .inr ⟨HNY.out, ?_⟩⟩
                · exact (((HS6.out.bel.setCell (p := ⟨w.heap.size, 0, none⟩) (Nat.le_refl _) _).setCell (p := ⟨w.heap.size, 1, none⟩) (Nat.le_refl _) _).setCell (p := ⟨w.heap.size, 2, none⟩) (Nat.le_refl _) _).setCell (p := ⟨w.heap.size, 3, none⟩) (Nat.le_refl _) _
                · show _ = Ending.returned (.tuple #[_, .int .i64 (if opE b mgB = 0 then 125 else opE b mgB)])
                  rw [if_pos HOP.out]
                  rfl
            · obtain rfl := hmn hm
              have HNY : Hid (¬ Y) := fun y => hm (HYF.out y).2.1
              clear hme hmn hm HYF
              go_wp2
              refine bodyPost_ret (ret_mn1 rfl _ _ _ _ _ _ w.heap.size (by rfl) (HS6.out.z.setAll _ _ _ _)) rfl ⟨?_, .inr ⟨HNY.out, ?_⟩⟩
              · exact (((HS6.out.bel.setCell (p := ⟨w.heap.size, 0, none⟩) (Nat.le_refl _) _).setCell (p := ⟨w.heap.size, 1, none⟩) (Nat.le_refl _) _).setCell (p := ⟨w.heap.size, 2, none⟩) (Nat.le_refl _) _).setCell (p := ⟨w.heap.size, 3, none⟩) (Nat.le_refl _) _
              · show _ = Ending.returned (.tuple #[_, .int .i64 (if opE b mgB = 0 then 125 else opE b mgB)])
                rw [if_pos HOP.out]
                rfl
          · have HNY : Hid (¬ Y) := fun y => by have := (HYF.out y).1; cases this
            clear HYF
            have c0 : wr.cell? ⟨g, 0, none⟩ = some (.int .i64 x1) := HSk.out.hg.cell 0
            have c1 : wr.cell? ⟨g, 1, none⟩ = some (.int .i64 x2) := HSk.out.hg.cell 1
            have c2 : wr.cell? ⟨g, 2, none⟩ = some (.int .u64 x3) := HSk.out.hg.cell 2
            have c3 : wr.cell? ⟨g, 3, none⟩ = some (.slice ao ps.length cap) := HSk.out.hg.cell 3
            have HEn : Hid (∀ _ : Unit, _) := fun _ => refEnc_any wr x1 x2 x3 ao cap ps HSk.out.own.sees HWF.out lb3
            go_wp2_with fail
            refine (HEn.out ()).mono ?_
            rintro e w6 ⟨hme, hmn, hb6⟩
            have HS6 : Hid (RfS w C g (g + 1) s x1 x2 x3 w6 p true (.slice ao ps.length cap) ps) := HSk.out.later hb6
            clear hb6 HEn HSk c0 c1 c2 c3 cb
            have cb : w6.cell? ⟨C, 2, none⟩ = some (.bool true) := HS6.out.cu.cell 2
            have c0 : w6.cell? ⟨g, 0, none⟩ = some (.int .i64 x1) := HS6.out.hg.cell 0
            have c1 : w6.cell? ⟨g, 1, none⟩ = some (.int .i64 x2) := HS6.out.hg.cell 1
            have c2 : w6.cell? ⟨g, 2, none⟩ = some (.int .u64 x3) := HS6.out.hg.cell 2
            have c3 : w6.cell? ⟨g, 3, none⟩ = some (.slice ao ps.length cap) := HS6.out.hg.cell 3
            have z0 : w6.cell? ⟨w.heap.size, 0, none⟩ = some (.int .i64 0) := HS6.out.z.cell 0
            have z1 : w6.cell? ⟨w.heap.size, 1, none⟩ = some (.int .i64 0) := HS6.out.z.cell 1
            have z2 : w6.cell? ⟨w.heap.size, 2, none⟩ = some (.int .u64 0) := HS6.out.z.cell 2
            have z3 : w6.cell? ⟨w.heap.size, 3, none⟩ = some (.slice none 0 0) := HS6.out.z.cell 3
            have o0 := HS6.out.z.free 0
            have o1 := HS6.out.z.free 1
            have o2 := HS6.out.z.free 2
            have o3 := HS6.out.z.free 3
            have hzg := HS6.out.r2
            have hzn : w.heap.size ≠ g := by omega
            by_cases hm : mayM x1 x2 x3 ps
            · obtain rfl := hme hm
              clear hme hmn hm
              generalize sealM mgM (encM x1 x2 x3 ps) = sl at *
              go_wp2
              refine bodyPost_ret (ret_mn1 rfl _ _ _ _ _ _ w.heap.size (by rfl) (HS6.out.z.setAll _ _ _ _)) rfl ⟨?_, .inr ⟨HNY.out, ?_⟩⟩
              · exact (((HS6.out.bel.setCell (p := ⟨w.heap.size, 0, none⟩) (Nat.le_refl _) _).setCell (p := ⟨w.heap.size, 1, none⟩) (Nat.le_refl _) _).setCell (p := ⟨w.heap.size, 2, none⟩) (Nat.le_refl _) _).setCell (p := ⟨w.heap.size, 3, none⟩) (Nat.le_refl _) _
              · show _ = Ending.returned (.tuple #[_, .int .i64 (if opE b mgB = 0 then 125 else opE b mgB)])
                rw [if_pos HOP.out]
                rfl
            · obtain rfl := hmn hm
              clear hme hmn hm
              go_wp2
              refine bodyPost_ret (ret_mn1 rfl _ _ _ _ _ _ w.heap.size (by rfl) (HS6.out.z.setAll _ _ _ _)) rfl ⟨?_, .inr ⟨HNY.out, ?_⟩⟩
              · exact (((HS6.out.bel.setCell (p := ⟨w.heap.size, 0, none⟩) (Nat.le_refl _) _).setCell (p := ⟨w.heap.size, 1, none⟩) (Nat.le_refl _) _).setCell (p := ⟨w.heap.size, 2, none⟩) (Nat.le_refl _) _).setCell (p := ⟨w.heap.size, 3, none⟩) (Nat.le_refl _) _
              · show _ = Ending.returned (.tuple #[_, .int .i64 (if opE b mgB = 0 then 125 else opE b mgB)])
                rw [if_pos HOP.out]
                rfl
end Go.Proofs.YtjceellpmopnkaaDoor
