import Derived.Test.YtjceellpmopnkaaDoorMd1
import Derived.Test.YtjceellpmopnkaaDoorMf2
namespace Go.Proofs.YtjceellpmopnkaaDoor
set_option linter.unusedSimpArgs false
open Go.ChangeShapes Go.WideShapes Go.ChangeAt Go.RowKit
set_option linter.unusedVariables false
set_option maxRecDepth 100000
/-- A pair's name, as a value. -/
def pnV (p : PN) : Value := .agg #[.int .i64 p.id, .int .u64 p.lo, .int .u64 p.hi, .int .i64 p.rows, .int .i64 p.gen, .int .i64 p.gone, .int .u32 p.ds, .int .u32 p.es]
/-- A pair's name in a block of its own. -/
def Pn8 (W : World) (g : Nat) (a b c d e f x y : Value) : Prop := W.heap[g]? = some (.cells #[a, b, c, d, e, f, x, y] 36 (0, 0))
theorem Pn8.cell {W : World} {g : Nat} {a b c d e f x y : Value} (h : Pn8 W g a b c d e f x y) (j : Nat) : W.cell? ⟨g, j, none⟩ = (#[a, b, c, d, e, f, x, y] : Array Value)[j]? := cells_at h j
theorem Pn8.free {W : World} {g : Nat} {a b c d e f x y : Value} (h : Pn8 W g a b c d e f x y) (j : Nat) : W.frozen? ⟨g, j, none⟩ = false := by
  unfold Pn8 at h
  simp [World.frozen?, h]
theorem Pn8.lt {W : World} {g : Nat} {a b c d e f x y : Value} (h : Pn8 W g a b c d e f x y) : g < W.heap.size := (Array.getElem?_eq_some_iff.1 h).1
theorem Pn8.fr {W W' : World} {g R : Nat} {a b c d e f x y : Value} (h : Pn8 W g a b c d e f x y) (hf : Fr R W W') (hn : g ≠ R) : Pn8 W' g a b c d e f x y := (hf.rest g h.lt hn).trans h
theorem Pn8.other {W : World} {g : Nat} {a b c d e f x y : Value} (h : Pn8 W g a b c d e f x y) {p : Addr} (v : Value) (hp : g ≠ p.block) : Pn8 (W.setCell p v) g a b c d e f x y := (Below.heap_setCell W p v g hp).trans h
theorem Pn8.set2 {W : World} {g : Nat} {a b c d e f x y : Value} (h : Pn8 W g a b c d e f x y) (v : Value) : Pn8 (W.setCell ⟨g, 2, none⟩ v) g a b v d e f x y := by
  unfold Pn8 at h ⊢
  simp [World.setCell, Array.getElem?_modify, h]
theorem Pn8.set3 {W : World} {g : Nat} {a b c d e f x y : Value} (h : Pn8 W g a b c d e f x y) (v : Value) : Pn8 (W.setCell ⟨g, 3, none⟩ v) g a b c v e f x y := by
  unfold Pn8 at h ⊢
  simp [World.setCell, Array.getElem?_modify, h]
theorem Pn8.set4 {W : World} {g : Nat} {a b c d e f x y : Value} (h : Pn8 W g a b c d e f x y) (v : Value) : Pn8 (W.setCell ⟨g, 4, none⟩ v) g a b c d v f x y := by
  unfold Pn8 at h ⊢
  simp [World.setCell, Array.getElem?_modify, h]
theorem Pn8.set5 {W : World} {g : Nat} {a b c d e f x y : Value} (h : Pn8 W g a b c d e f x y) (v : Value) : Pn8 (W.setCell ⟨g, 5, none⟩ v) g a b c d e v x y := by
  unfold Pn8 at h ⊢
  simp [World.setCell, Array.getElem?_modify, h]
theorem Pn8.set6 {W : World} {g : Nat} {a b c d e f x y : Value} (h : Pn8 W g a b c d e f x y) (v : Value) : Pn8 (W.setCell ⟨g, 6, none⟩ v) g a b c d e f v y := by
  unfold Pn8 at h ⊢
  simp [World.setCell, Array.getElem?_modify, h]
theorem Pn8.set7 {W : World} {g : Nat} {a b c d e f x y : Value} (h : Pn8 W g a b c d e f x y) (v : Value) : Pn8 (W.setCell ⟨g, 7, none⟩ v) g a b c d e f x v := by
  unfold Pn8 at h ⊢
  simp [World.setCell, Array.getElem?_modify, h]
theorem Pn8.setAll {W : World} {g : Nat} {a b c d e f x y : Value} (h : Pn8 W g a b c d e f x y) (a' b' c' d' e' f' x' y' : Value) : Pn8 ((((((((W.setCell ⟨g, 0, none⟩ a').setCell ⟨g, 1, none⟩ b').setCell ⟨g, 2, none⟩ c').setCell ⟨g, 3, none⟩ d').setCell ⟨g, 4, none⟩ e').setCell ⟨g, 5, none⟩ f').setCell ⟨g, 6, none⟩ x').setCell ⟨g, 7, none⟩ y') g a' b' c' d' e' f' x' y' := by
  unfold Pn8 at h ⊢
  simp [World.setCell, Array.getElem?_modify, h]
theorem infoPn : (Tryd.prog.info? 36).map (·.size) = some 8 := by kernel_rfl
theorem ret_pn {fn : Func} {p : Tmp} (h : fn.results = #[.cell p 36]) (tmps : Array Value) (w : World) (v : PN) (g : Nat) (hp : tmps.getD p undef = .pointer (some ⟨g, 0, none⟩)) (hg : Pn8 w g (.int .i64 v.id) (.int .u64 v.lo) (.int .u64 v.hi) (.int .i64 v.rows) (.int .i64 v.gen) (.int .i64 v.gone) (.int .u32 v.ds) (.int .u32 v.es)) :
    (results fn tmps).run Tryd.prog w = .ok (pnV v) w := by
  have hp' : tmps[p]?.getD undef = .pointer (some ⟨g, 0, none⟩) := by simpa using hp
  unfold Pn8 at hg
  simp [results, h, hp', asAddr, run_loadVar_row w g 36 36 _ (0, 0) _ hg Tryd.underlying36 rfl infoPn, pnV]
/-- How pairName goes on: what is read of the k-th number on. -/
def kp7 (s : ByteArray) (last upto : Int) (id lo hi rows gen gone ds : Int) (p : Nat) : Option (PN × Nat) := (rdF4 s p).bind fun x => some (⟨id, lo, hi, rows, gen, gone, ds, x.1⟩, x.2)
theorem kp7_no {s : ByteArray} {last upto : Int} {id lo hi rows gen gone ds : Int} {p : Nat} (h : rdF4 s p = none) : kp7 s last upto id lo hi rows gen gone ds p = none := by rw [kp7, h]; rfl
theorem kp7_yes {s : ByteArray} {last upto : Int} {id lo hi rows gen gone ds : Int} {p q : Nat} {x : Int} (h : rdF4 s p = some (x, q)) : kp7 s last upto id lo hi rows gen gone ds p = some (⟨id, lo, hi, rows, gen, gone, ds, x⟩, q) := by rw [kp7, h]; rfl
def kp6 (s : ByteArray) (last upto : Int) (id lo hi rows gen gone : Int) (p : Nat) : Option (PN × Nat) := (rdF4 s p).bind fun x => kp7 s last upto id lo hi rows gen gone x.1 x.2
theorem kp6_no {s : ByteArray} {last upto : Int} {id lo hi rows gen gone : Int} {p : Nat} (h : rdF4 s p = none) : kp6 s last upto id lo hi rows gen gone p = none := by rw [kp6, h]; rfl
theorem kp6_yes {s : ByteArray} {last upto : Int} {id lo hi rows gen gone : Int} {p q : Nat} {x : Int} (h : rdF4 s p = some (x, q)) : kp6 s last upto id lo hi rows gen gone p = kp7 s last upto id lo hi rows gen gone x q := by rw [kp6, h]; rfl
def kp5 (s : ByteArray) (last upto : Int) (id lo hi rows gen : Int) (p : Nat) : Option (PN × Nat) := (rdU s p 65536).bind fun x => kp6 s last upto id lo hi rows gen x.1 x.2
theorem kp5_no {s : ByteArray} {last upto : Int} {id lo hi rows gen : Int} {p : Nat} (h : rdU s p 65536 = none) : kp5 s last upto id lo hi rows gen p = none := by rw [kp5, h]; rfl
theorem kp5_yes {s : ByteArray} {last upto : Int} {id lo hi rows gen : Int} {p q : Nat} {x : Int} (h : rdU s p 65536 = some (x, q)) : kp5 s last upto id lo hi rows gen p = kp6 s last upto id lo hi rows gen x q := by rw [kp5, h]; rfl
def kp4 (s : ByteArray) (last upto : Int) (id lo hi rows : Int) (p : Nat) : Option (PN × Nat) := (rdU s p 99999999).bind fun x => kp5 s last upto id lo hi rows x.1 x.2
theorem kp4_no {s : ByteArray} {last upto : Int} {id lo hi rows : Int} {p : Nat} (h : rdU s p 99999999 = none) : kp4 s last upto id lo hi rows p = none := by rw [kp4, h]; rfl
theorem kp4_yes {s : ByteArray} {last upto : Int} {id lo hi rows : Int} {p q : Nat} {x : Int} (h : rdU s p 99999999 = some (x, q)) : kp4 s last upto id lo hi rows p = kp5 s last upto id lo hi rows x q := by rw [kp4, h]; rfl
def kp3 (s : ByteArray) (last upto : Int) (id lo hi : Int) (p : Nat) : Option (PN × Nat) := (rdU s p 65536).bind fun x => kp4 s last upto id lo hi x.1 x.2
theorem kp3_no {s : ByteArray} {last upto : Int} {id lo hi : Int} {p : Nat} (h : rdU s p 65536 = none) : kp3 s last upto id lo hi p = none := by rw [kp3, h]; rfl
theorem kp3_yes {s : ByteArray} {last upto : Int} {id lo hi : Int} {p q : Nat} {x : Int} (h : rdU s p 65536 = some (x, q)) : kp3 s last upto id lo hi p = kp4 s last upto id lo hi x q := by rw [kp3, h]; rfl
def kp2 (s : ByteArray) (last upto : Int) (id lo : Int) (p : Nat) : Option (PN × Nat) := (rdU s p (upto - lo)).bind fun x => kp3 s last upto id lo (lo + x.1) x.2
theorem kp2_no {s : ByteArray} {last upto : Int} {id lo : Int} {p : Nat} (h : rdU s p (upto - lo) = none) : kp2 s last upto id lo p = none := by rw [kp2, h]; rfl
theorem kp2_yes {s : ByteArray} {last upto : Int} {id lo : Int} {p q : Nat} {x : Int} (h : rdU s p (upto - lo) = some (x, q)) : kp2 s last upto id lo p = kp3 s last upto id lo (lo + x) q := by rw [kp2, h]; rfl
def kp1 (s : ByteArray) (last upto : Int) (id : Int) (p : Nat) : Option (PN × Nat) := (rdU s p (upto - last)).bind fun x => kp2 s last upto id (last + x.1) x.2
theorem kp1_no {s : ByteArray} {last upto : Int} {id : Int} {p : Nat} (h : rdU s p (upto - last) = none) : kp1 s last upto id p = none := by rw [kp1, h]; rfl
theorem kp1_yes {s : ByteArray} {last upto : Int} {id : Int} {p q : Nat} {x : Int} (h : rdU s p (upto - last) = some (x, q)) : kp1 s last upto id p = kp2 s last upto id (last + x) q := by rw [kp1, h]; rfl
def kp0 (s : ByteArray) (last upto : Int) (p : Nat) : Option (PN × Nat) := (rdU s p 99999999).bind fun x => kp1 s last upto  x.1 x.2
theorem kp0_no {s : ByteArray} {last upto : Int} {p : Nat} (h : rdU s p 99999999 = none) : kp0 s last upto  p = none := by rw [kp0, h]; rfl
theorem kp0_yes {s : ByteArray} {last upto : Int} {p q : Nat} {x : Int} (h : rdU s p 99999999 = some (x, q)) : kp0 s last upto  p = kp1 s last upto  x q := by rw [kp0, h]; rfl
theorem kp0_eq (s : ByteArray) (p : Nat) (last upto : Int) : rdPN s p last upto = kp0 s last upto p := rfl
theorem TookI.yes {R : Nat} {s : ByteArray} {w w' : World} {k : IntKind} {x : Int} {q : Nat} {e : Ending} (h : TookI R s w k (some (x, q)) e w') : Fr R w w' ∧ e = .returned (.int k x) ∧ RdI w' R s q := by
  obtain ⟨hf, ⟨x', q', hxx, he, hr⟩ | ⟨hxx, _⟩⟩ := h
  · injection hxx with hxx
    injection hxx with ha hb
    subst ha hb
    exact ⟨hf, he, hr⟩
  · cases hxx
theorem TookI.no {R : Nat} {s : ByteArray} {w w' : World} {k : IntKind} {e : Ending} (h : TookI R s w k none e w') : Fr R w w' ∧ e = oops 125 := by
  obtain ⟨hf, ⟨x', q', hxx, he, hr⟩ | ⟨_, he⟩⟩ := h
  · cases hxx
  · exact ⟨hf, he⟩
/-- A pair's name is read, and the reader stands behind it; or the reading gives up. -/
def PnI (R : Nat) (s : ByteArray) (w : World) (r : Option (PN × Nat)) (e : Ending) (w' : World) : Prop :=
  Fr R w w' ∧ ((∃ v q, r = some (v, q) ∧ e = .returned (pnV v) ∧ RdI w' R s q) ∨ (r = none ∧ e = oops 125))
set_option maxHeartbeats 25600000 in
theorem pairNameI (R : Nat) (s : ByteArray) (p : Nat) (last upto : Int) (w : World) (h : RdI w R s p) (hp : p ≤ s.size) (hs : s.size ≤ 1125899906842624) (h0 : 0 ≤ last) (h1 : last ≤ upto) (h2 : upto ≤ 4611686018427387903) :
    Calls Tryd.prog 39 #[.pointer (some ⟨R, 0, none⟩), .int .u64 last, .int .u64 upto] w (PnI R s w (rdPN s p last upto)) := by
  have HD0 : Hid (rdPN s p last upto = kp0 s last upto p) := kp0_eq s p last upto
  generalize rdPN s p last upto = rr at *
  have hRl := h.lt
  have Hne : Hid (w.heap.size ≠ R) := by show _ ≠ _; omega
  have hb0 : Below w.heap.size w (w.alloc (.cells #[.int .i64 0, .int .u64 0, .int .u64 0, .int .i64 0, .int .i64 0, .int .i64 0, .int .u32 0, .int .u32 0] 36)) := (Below.refl _ _).alloc (Nat.le_refl _) _
  have HR0 : Hid (RdI (w.alloc (.cells #[.int .i64 0, .int .u64 0, .int .u64 0, .int .i64 0, .int .i64 0, .int .i64 0, .int .u32 0, .int .u32 0] 36)) R s p) := h.later hb0
  have HF0 : Hid (Fr R w (w.alloc (.cells #[.int .i64 0, .int .u64 0, .int .u64 0, .int .i64 0, .int .i64 0, .int .i64 0, .int .u32 0, .int .u32 0] 36))) := (Fr.refl R w).alloc (Nat.le_of_lt hRl) _
  have HG0 : Hid (Pn8 (w.alloc (.cells #[.int .i64 0, .int .u64 0, .int .u64 0, .int .i64 0, .int .i64 0, .int .i64 0, .int .u32 0, .int .u32 0] 36)) w.heap.size (.int .i64 0) (.int .u64 0) (.int .u64 0) (.int .i64 0) (.int .i64 0) (.int .i64 0) (.int .u32 0) (.int .u32 0)) := heap_alloc_new w _
  have hp0 := hp
  clear h hb0 hp
  go_enter Tryd.func39, Tryd.ntmps39
  go_wp2_with fail
  generalize hz0 : w.alloc (.cells #[.int .i64 0, .int .u64 0, .int .u64 0, .int .i64 0, .int .i64 0, .int .i64 0, .int .u32 0, .int .u32 0] 36) = y0 at *
  clear hz0
  have HC0 : Hid (∀ _ : Unit, _) := fun _ => countI R s p 99999999 y0 HR0.out hp0 hs (by omega) (by omega)
  cases hx0 : rdU s p 99999999 with
  | none =>
    rw [hx0] at HC0
    refine (HC0.out ()).mono ?_
    intro e v0 ht
    obtain ⟨hf, rfl⟩ := ht.no
    exact ⟨rfl, HF0.out.trans hf, .inr ⟨HD0.out.trans (kp0_no hx0), rfl⟩⟩
  | some yy0 =>
    obtain ⟨x0, p1⟩ := yy0
    rw [hx0] at HC0
    have HD1 : Hid (rr = _) := HD0.out.trans (kp0_yes hx0)
    obtain ⟨ff0, qq0, lb0, ub0⟩ := rdU_form hx0
    have hp1 := ff0.size hp0
    rw [← qq0] at hp1
    clear ff0 qq0
    clear hx0 HD0
    refine (HC0.out ()).mono ?_
    intro e v0 ht
    obtain ⟨hf, rfl, hr⟩ := ht.yes
    have HF1 : Hid (Fr R w v0) := HF0.out.trans hf
    have HR1 : Hid (RdI v0 R s p1) := hr
    have HG1 : Hid (Pn8 v0 w.heap.size (.int .i64 0) (.int .u64 0) (.int .u64 0) (.int .i64 0) (.int .i64 0) (.int .i64 0) (.int .u32 0) (.int .u32 0)) := HG0.out.fr hf Hne.out
    clear hf hr ht HC0 HF0 HR0 HG0 hp0
    generalize hyy : v0 = y1 at *
    clear hyy
    have HC1 : Hid (∀ _ : Unit, _) := fun _ => numberI R s p1 (upto - last) y1 HR1.out hp1 hs
    cases hx1 : rdU s p1 (upto - last) with
    | none =>
      rw [hx1] at HC1
      go_wp2_with fail
      refine (HC1.out ()).mono ?_
      intro e v1 ht
      obtain ⟨hf, rfl⟩ := ht.no
      exact ⟨rfl, HF1.out.trans hf, .inr ⟨HD1.out.trans (kp1_no hx1), rfl⟩⟩
    | some yy1 =>
      obtain ⟨x1, p2⟩ := yy1
      rw [hx1] at HC1
      have HD2 : Hid (rr = _) := HD1.out.trans (kp1_yes hx1)
      obtain ⟨ff1, qq1, lb1, ub1⟩ := rdU_form hx1
      have hp2 := ff1.size hp1
      rw [← qq1] at hp2
      clear ff1 qq1
      clear hx1 HD1
      go_wp2_with fail
      refine (HC1.out ()).mono ?_
      intro e v1 ht
      obtain ⟨hf, rfl, hr⟩ := ht.yes
      have HF2 : Hid (Fr R w v1) := HF1.out.trans hf
      have HR2 : Hid (RdI v1 R s p2) := hr
      have HG2 : Hid (Pn8 v1 w.heap.size (.int .i64 0) (.int .u64 0) (.int .u64 0) (.int .i64 0) (.int .i64 0) (.int .i64 0) (.int .u32 0) (.int .u32 0)) := HG1.out.fr hf Hne.out
      clear hf hr ht HC1 HF1 HR1 HG1 hp1
      have hba : Below v1.heap.size v1 (v1.alloc (.cells #[.int .i64 x0, .int .u64 (last + x1), .int .u64 0, .int .i64 0, .int .i64 0, .int .i64 0, .int .u32 0, .int .u32 0] 36)) := (Below.refl _ _).alloc (Nat.le_refl _) _
      have HRa : Hid (RdI (v1.alloc (.cells #[.int .i64 x0, .int .u64 (last + x1), .int .u64 0, .int .i64 0, .int .i64 0, .int .i64 0, .int .u32 0, .int .u32 0] 36)) R s p2) := HR2.out.later hba
      have HFa : Hid (Fr R w (v1.alloc (.cells #[.int .i64 x0, .int .u64 (last + x1), .int .u64 0, .int .i64 0, .int .i64 0, .int .i64 0, .int .u32 0, .int .u32 0] 36))) := HF2.out.alloc (Nat.le_of_lt HR2.out.lt) _
      have HGa : Hid (Pn8 (v1.alloc (.cells #[.int .i64 x0, .int .u64 (last + x1), .int .u64 0, .int .i64 0, .int .i64 0, .int .i64 0, .int .u32 0, .int .u32 0] 36)) w.heap.size (.int .i64 0) (.int .u64 0) (.int .u64 0) (.int .i64 0) (.int .i64 0) (.int .i64 0) (.int .u32 0) (.int .u32 0)) := (hba.block _ HG2.out.lt).trans HG2.out
      have HPa : Hid (Pn8 (v1.alloc (.cells #[.int .i64 x0, .int .u64 (last + x1), .int .u64 0, .int .i64 0, .int .i64 0, .int .i64 0, .int .u32 0, .int .u32 0] 36)) v1.heap.size (.int .i64 x0) (.int .u64 (last + x1)) (.int .u64 0) (.int .i64 0) (.int .i64 0) (.int .i64 0) (.int .u32 0) (.int .u32 0)) := heap_alloc_new v1 _
      have Hne2 : Hid (v1.heap.size ≠ R) := (by have := HR2.out.lt; show _ ≠ _; omega)
      have Hne3 : Hid (w.heap.size ≠ v1.heap.size) := (by have := HG2.out.lt; show _ ≠ _; omega)
      have Hle3 : Hid (w.heap.size ≤ v1.heap.size) := (by have := HG2.out.lt; show _ ≤ _; omega)
      clear hba HR2 HF2 HG2
      go_wp2_with fail
      generalize hya : v1.alloc (.cells #[.int .i64 x0, .int .u64 (last + x1), .int .u64 0, .int .i64 0, .int .i64 0, .int .i64 0, .int .u32 0, .int .u32 0] 36) = y2 at *
      generalize hgg : v1.heap.size = g at *
      clear hya hgg
      have HR2 : Hid (RdI y2 R s p2) := HRa.out
      have HF2 : Hid (Fr R w y2) := HFa.out
      have HG2 : Hid (Pn8 y2 w.heap.size (.int .i64 0) (.int .u64 0) (.int .u64 0) (.int .i64 0) (.int .i64 0) (.int .i64 0) (.int .u32 0) (.int .u32 0)) := HGa.out
      have HP2 : Hid (Pn8 y2 g (.int .i64 x0) (.int .u64 (last + x1)) (.int .u64 0) (.int .i64 0) (.int .i64 0) (.int .i64 0) (.int .u32 0) (.int .u32 0)) := HPa.out
      clear HRa HFa HGa HPa
      have c1 : y2.cell? ⟨g, 1, none⟩ = some (.int .u64 (last + x1)) := HP2.out.cell 1
      have HC2 : Hid (∀ _ : Unit, _) := fun _ => numberI R s p2 (upto - (last + x1)) y2.drew HR2.out.drew hp2 hs
      have hup : IntKind.u64.wrap (upto - (last + x1)) = upto - (last + x1) := by rw [IntKind.wrap_u64]; omega
      cases hx2 : rdU s p2 (upto - (last + x1)) with
      | none =>
        rw [hx2] at HC2
        (refine wp_region_held_drew (S := (fun W => W.cell? ⟨g, 1, none⟩ = some (.int .u64 (last + x1)))) (by kernel_rfl) c1 (fun hHeld => ?_); simp only [List.size_toArray, List.length_cons, List.length_nil, Nat.reduceAdd, Array.replicate_succ, Array.replicate_zero, List.push_toArray, List.append_toArray, List.nil_append, List.cons_append])
        (refine tk0 (v := ?_) (by kernel_rfl) (by kernel_rfl) (by kernel_rfl) (fun _ _ _ h => h) (Or.inl ⟨by rfl, ?_⟩) (by assumption) ?_; rotate_left; (focus (intro w hSw; (try dsimp only at hSw); go_simp; (try first | (rw [dif_pos (by omega)]; simp only [Result.andThen_ok]) | rw [if_pos (by omega)]); (try with_reducible rfl); done)); try simp only [Act.put, List.setIfInBounds_toArray, List.set_cons_zero, List.set_cons_succ])
        (refine tk1 (v := ?_) (by kernel_rfl) (by kernel_rfl) (by kernel_rfl) (fun _ _ _ h => h) (Or.inl ⟨by rfl, ?_⟩) (by assumption) ?_; rotate_left; (focus (intro w hSw; (try dsimp only at hSw); go_simp; (try first | (rw [dif_pos (by omega)]; simp only [Result.andThen_ok]) | rw [if_pos (by omega)]); (try with_reducible rfl); done)); try simp only [Act.put, List.setIfInBounds_toArray, List.set_cons_zero, List.set_cons_succ])
        (refine tk2 (v := ?_) (by kernel_rfl) (by kernel_rfl) (by kernel_rfl) (fun _ _ _ h => h) (Or.inl ⟨by rfl, ?_⟩) (by assumption) ?_; rotate_left; (focus (intro w hSw; (try dsimp only at hSw); go_simp; (try first | (rw [dif_pos (by omega)]; simp only [Result.andThen_ok]) | rw [if_pos (by omega)]); (try with_reducible rfl); done)); try simp only [Act.put, List.setIfInBounds_toArray, List.set_cons_zero, List.set_cons_succ])
        (refine tk3 (v := ?_) (by kernel_rfl) (by kernel_rfl) (by kernel_rfl) (fun _ _ _ h => h) (Or.inl ⟨by rfl, ?_⟩) (by assumption) ?_; rotate_left; (focus (intro w hSw; (try dsimp only at hSw); go_simp; (try first | (rw [dif_pos (by omega)]; simp only [Result.andThen_ok]) | rw [if_pos (by omega)]); (try with_reducible rfl); done)); try simp only [Act.put, List.setIfInBounds_toArray, List.set_cons_zero, List.set_cons_succ])
        (refine tk4 (v := ?_) (by kernel_rfl) (by kernel_rfl) (by kernel_rfl) (fun _ _ _ h => h) (Or.inl ⟨by rfl, ?_⟩) (by assumption) ?_; rotate_left; (focus (intro w hSw; (try dsimp only at hSw); go_simp; (try first | (rw [dif_pos (by omega)]; simp only [Result.andThen_ok]) | rw [if_pos (by omega)]); (try with_reducible rfl); done)); try simp only [Act.put, List.setIfInBounds_toArray, List.set_cons_zero, List.set_cons_succ])
        (refine tk5 (v := ?_) (by kernel_rfl) (by kernel_rfl) (by kernel_rfl) (fun _ _ _ h => h) (Or.inl ⟨by rfl, ?_⟩) (by assumption) ?_; rotate_left; (focus (intro w hSw; (try dsimp only at hSw); go_simp; (try first | (rw [dif_pos (by omega)]; simp only [Result.andThen_ok]) | rw [if_pos (by omega)]); (try with_reducible rfl); done)); try simp only [Act.put, List.setIfInBounds_toArray, List.set_cons_zero, List.set_cons_succ])
        (refine tk6 (v := ?_) (by kernel_rfl) (by kernel_rfl) (by kernel_rfl) (fun _ _ _ h => h) (Or.inl ⟨by rfl, ?_⟩) (by assumption) ?_; rotate_left; (focus (intro w hSw; (try dsimp only at hSw); go_simp; (try first | (rw [dif_pos (by omega)]; simp only [Result.andThen_ok]) | rw [if_pos (by omega)]); (try with_reducible rfl); done)); try simp only [Act.put, List.setIfInBounds_toArray, List.set_cons_zero, List.set_cons_succ])
        (refine wpAnyH_ready (rs := [7]) (by kernel_rfl) (by simp) ?_; refine ar7 (fun K hK => ?_) AllReadyH.nil; go_simp)
        refine (HC2.out ()).mono ?_
        intro e v2 ht
        obtain ⟨hf, rfl⟩ := ht.no
        exact ⟨rfl, HF2.out.drew.trans hf, .inr ⟨HD2.out.trans (kp2_no hx2), rfl⟩⟩
      | some yy2 =>
        obtain ⟨x2, p3⟩ := yy2
        rw [hx2] at HC2
        have HD3 : Hid (rr = kp3 s last upto x0 (last + x1) (last + x1 + x2) p3) := HD2.out.trans (kp2_yes hx2)
        obtain ⟨ff2, qq2, lb2, ub2⟩ := rdU_form hx2
        have hp3 := ff2.size hp2
        rw [← qq2] at hp3
        clear ff2 qq2 hx2 HD2
        have hup2 : IntKind.u64.wrap (last + x1 + x2) = last + x1 + x2 := by rw [IntKind.wrap_u64]; omega
        (refine wp_region_held_drew (S := (fun W => W.cell? ⟨g, 1, none⟩ = some (.int .u64 (last + x1)))) (by kernel_rfl) c1 (fun hHeld => ?_); simp only [List.size_toArray, List.length_cons, List.length_nil, Nat.reduceAdd, Array.replicate_succ, Array.replicate_zero, List.push_toArray, List.append_toArray, List.nil_append, List.cons_append])
        (refine tk0 (v := ?_) (by kernel_rfl) (by kernel_rfl) (by kernel_rfl) (fun _ _ _ h => h) (Or.inl ⟨by rfl, ?_⟩) (by assumption) ?_; rotate_left; (focus (intro w hSw; (try dsimp only at hSw); go_simp; (try first | (rw [dif_pos (by omega)]; simp only [Result.andThen_ok]) | rw [if_pos (by omega)]); (try with_reducible rfl); done)); try simp only [Act.put, List.setIfInBounds_toArray, List.set_cons_zero, List.set_cons_succ])
        (refine tk1 (v := ?_) (by kernel_rfl) (by kernel_rfl) (by kernel_rfl) (fun _ _ _ h => h) (Or.inl ⟨by rfl, ?_⟩) (by assumption) ?_; rotate_left; (focus (intro w hSw; (try dsimp only at hSw); go_simp; (try first | (rw [dif_pos (by omega)]; simp only [Result.andThen_ok]) | rw [if_pos (by omega)]); (try with_reducible rfl); done)); try simp only [Act.put, List.setIfInBounds_toArray, List.set_cons_zero, List.set_cons_succ])
        (refine tk2 (v := ?_) (by kernel_rfl) (by kernel_rfl) (by kernel_rfl) (fun _ _ _ h => h) (Or.inl ⟨by rfl, ?_⟩) (by assumption) ?_; rotate_left; (focus (intro w hSw; (try dsimp only at hSw); go_simp; (try first | (rw [dif_pos (by omega)]; simp only [Result.andThen_ok]) | rw [if_pos (by omega)]); (try with_reducible rfl); done)); try simp only [Act.put, List.setIfInBounds_toArray, List.set_cons_zero, List.set_cons_succ])
        (refine tk3 (v := ?_) (by kernel_rfl) (by kernel_rfl) (by kernel_rfl) (fun _ _ _ h => h) (Or.inl ⟨by rfl, ?_⟩) (by assumption) ?_; rotate_left; (focus (intro w hSw; (try dsimp only at hSw); go_simp; (try first | (rw [dif_pos (by omega)]; simp only [Result.andThen_ok]) | rw [if_pos (by omega)]); (try with_reducible rfl); done)); try simp only [Act.put, List.setIfInBounds_toArray, List.set_cons_zero, List.set_cons_succ])
        (refine tk4 (v := ?_) (by kernel_rfl) (by kernel_rfl) (by kernel_rfl) (fun _ _ _ h => h) (Or.inl ⟨by rfl, ?_⟩) (by assumption) ?_; rotate_left; (focus (intro w hSw; (try dsimp only at hSw); go_simp; (try first | (rw [dif_pos (by omega)]; simp only [Result.andThen_ok]) | rw [if_pos (by omega)]); (try with_reducible rfl); done)); try simp only [Act.put, List.setIfInBounds_toArray, List.set_cons_zero, List.set_cons_succ])
        (refine tk5 (v := ?_) (by kernel_rfl) (by kernel_rfl) (by kernel_rfl) (fun _ _ _ h => h) (Or.inl ⟨by rfl, ?_⟩) (by assumption) ?_; rotate_left; (focus (intro w hSw; (try dsimp only at hSw); go_simp; (try first | (rw [dif_pos (by omega)]; simp only [Result.andThen_ok]) | rw [if_pos (by omega)]); (try with_reducible rfl); done)); try simp only [Act.put, List.setIfInBounds_toArray, List.set_cons_zero, List.set_cons_succ])
        (refine tk6 (v := ?_) (by kernel_rfl) (by kernel_rfl) (by kernel_rfl) (fun _ _ _ h => h) (Or.inl ⟨by rfl, ?_⟩) (by assumption) ?_; rotate_left; (focus (intro w hSw; (try dsimp only at hSw); go_simp; (try first | (rw [dif_pos (by omega)]; simp only [Result.andThen_ok]) | rw [if_pos (by omega)]); (try with_reducible rfl); done)); try simp only [Act.put, List.setIfInBounds_toArray, List.set_cons_zero, List.set_cons_succ])
        (refine wpAnyH_ready (rs := [7]) (by kernel_rfl) (by simp) ?_; refine ar7 (fun K hK => ?_) AllReadyH.nil; go_simp)
        refine (HC2.out ()).mono ?_
        intro e v2 ht
        obtain ⟨hf, rfl, hr⟩ := ht.yes
        have HP3 : Pn8 v2 g (.int .i64 x0) (.int .u64 (last + x1)) (.int .u64 0) (.int .i64 0) (.int .i64 0) (.int .i64 0) (.int .u32 0) (.int .u32 0) := Pn8.fr (W := y2.drew) HP2.out hf Hne2.out
        have c2 : v2.cell? ⟨g, 1, none⟩ = some (.int .u64 (last + x1)) := HP3.cell 1
        have c3 : v2.cell? ⟨g, 2, none⟩ = some (.int .u64 0) := HP3.cell 2
        have f3 := HP3.free 2
        have HP4 : Hid (Pn8 (v2.setCell ⟨g, 2, none⟩ (.int .u64 (last + x1 + x2))) g (.int .i64 x0) (.int .u64 (last + x1)) (.int .u64 (last + x1 + x2)) (.int .i64 0) (.int .i64 0) (.int .i64 0) (.int .u32 0) (.int .u32 0)) := Pn8.set2 HP3 _
        have HF4 : Hid (Fr R w (v2.setCell ⟨g, 2, none⟩ (.int .u64 (last + x1 + x2)))) := (HF2.out.drew.trans hf).setOwn (by simp only; have := Hle3.out; omega) Hle3.out _
        have HR4 : Hid (RdI (v2.setCell ⟨g, 2, none⟩ (.int .u64 (last + x1 + x2))) R s p3) := hr.other _ (Ne.symm Hne2.out)
        have HG4 : Hid (Pn8 (v2.setCell ⟨g, 2, none⟩ (.int .u64 (last + x1 + x2))) w.heap.size (.int .i64 0) (.int .u64 0) (.int .u64 0) (.int .i64 0) (.int .i64 0) (.int .i64 0) (.int .u32 0) (.int .u32 0)) := (Pn8.fr (W := y2.drew) HG2.out hf Hne.out).other _ Hne3.out
        have c4 : (v2.setCell ⟨g, 2, none⟩ (.int .u64 (last + x1 + x2))).cell? ⟨g, 1, none⟩ = some (.int .u64 (last + x1)) := HP4.out.cell 1
        clear hf hr ht HC2 HF2 HR2 HG2 HP2 hp2 HP3
        go_wp2_with fail
        (refine hK.out _ _ c2 (fun hHeld => ?_); clear hK K; try simp only [Act.put, List.setIfInBounds_toArray, List.set_cons_zero, List.set_cons_succ])
        (refine tk8 (v := ?_) (by kernel_rfl) (by kernel_rfl) (by kernel_rfl) (fun _ _ _ h => h) (Or.inl ⟨by rfl, ?_⟩) (by assumption) ?_; rotate_left; (focus (intro w hSw; (try dsimp only at hSw); go_simp; (try first | (rw [dif_pos (by omega)]; simp only [Result.andThen_ok]) | rw [if_pos (by omega)]); (try with_reducible rfl); done)); try simp only [Act.put, List.setIfInBounds_toArray, List.set_cons_zero, List.set_cons_succ])
        (refine tk9 (v := ?_) (by kernel_rfl) (by kernel_rfl) (by kernel_rfl) (fun _ _ _ h => h) (Or.inl ⟨by rfl, ?_⟩) (by assumption) ?_; rotate_left; (focus (intro w hSw; (try dsimp only at hSw); go_simp; (try first | (rw [dif_pos (by omega)]; simp only [Result.andThen_ok]) | rw [if_pos (by omega)]); (try with_reducible rfl); done)); try simp only [Act.put, List.setIfInBounds_toArray, List.set_cons_zero, List.set_cons_succ])
        (refine wpAnyH_ready (rs := [10]) (by kernel_rfl) (by simp) ?_; refine ar10 (fun K hK => ?_) AllReadyH.nil; go_simp)
        (refine hK.out _ _ c4 (fun hHeld => ?_); clear hK K; try simp only [Act.put, List.setIfInBounds_toArray, List.set_cons_zero, List.set_cons_succ])
        refine wpAnyH_done (by kernel_rfl) ?_ _
        generalize hya : v2.setCell ⟨g, 2, none⟩ (.int .u64 (last + x1 + x2)) = y3 at *
        clear hya c1 c2 c3 c4 f3 hup hup2 hHeld
        have HR3 : Hid (RdI y3 R s p3) := HR4.out
        have HF3 : Hid (Fr R w y3) := HF4.out
        have HG3 : Hid (Pn8 y3 w.heap.size (.int .i64 0) (.int .u64 0) (.int .u64 0) (.int .i64 0) (.int .i64 0) (.int .i64 0) (.int .u32 0) (.int .u32 0)) := HG4.out
        have HP3 : Hid (Pn8 y3 g (.int .i64 x0) (.int .u64 (last + x1)) (.int .u64 (last + x1 + x2)) (.int .i64 0) (.int .i64 0) (.int .i64 0) (.int .u32 0) (.int .u32 0)) := HP4.out
        clear HR4 HF4 HG4 HP4
        have HC3 : Hid (∀ _ : Unit, _) := fun _ => countI R s p3 65536 y3 HR3.out hp3 hs (by omega) (by omega)
        cases hx3 : rdU s p3 65536 with
        | none =>
          rw [hx3] at HC3
          go_wp2_with fail
          refine (HC3.out ()).mono ?_
          intro e v3 ht
          obtain ⟨hf, rfl⟩ := ht.no
          exact ⟨rfl, HF3.out.trans hf, .inr ⟨HD3.out.trans (kp3_no hx3), rfl⟩⟩
        | some yy3 =>
          obtain ⟨x3, p4⟩ := yy3
          rw [hx3] at HC3
          have HD4 : Hid (rr = _) := HD3.out.trans (kp3_yes hx3)
          obtain ⟨ff3, qq3, lb3, ub3⟩ := rdU_form hx3
          have hp4 := ff3.size hp3
          rw [← qq3] at hp4
          clear ff3 qq3
          clear hx3 HD3
          go_wp2_with fail
          refine (HC3.out ()).mono ?_
          intro e v3 ht
          obtain ⟨hf, rfl, hr⟩ := ht.yes
          have hP : Pn8 v3 g (.int .i64 x0) (.int .u64 (last + x1)) (.int .u64 (last + x1 + x2)) (.int .i64 0) (.int .i64 0) (.int .i64 0) (.int .u32 0) (.int .u32 0) := HP3.out.fr hf Hne2.out
          have c3 : v3.cell? ⟨g, 3, none⟩ = some (.int .i64 0) := hP.cell 3
          have f3 := hP.free 3
          have HP4 : Hid (Pn8 (v3.setCell ⟨g, 3, none⟩ (.int .i64 x3)) g (.int .i64 x0) (.int .u64 (last + x1)) (.int .u64 (last + x1 + x2)) (.int .i64 x3) (.int .i64 0) (.int .i64 0) (.int .u32 0) (.int .u32 0)) := Pn8.set3 hP _
          have HF4 : Hid (Fr R w (v3.setCell ⟨g, 3, none⟩ (.int .i64 x3))) := (HF3.out.trans hf).setOwn (by simp only; have := Hle3.out; omega) Hle3.out _
          have HR4 : Hid (RdI (v3.setCell ⟨g, 3, none⟩ (.int .i64 x3)) R s p4) := hr.other _ (Ne.symm Hne2.out)
          have HG4 : Hid (Pn8 (v3.setCell ⟨g, 3, none⟩ (.int .i64 x3)) w.heap.size (.int .i64 0) (.int .u64 0) (.int .u64 0) (.int .i64 0) (.int .i64 0) (.int .i64 0) (.int .u32 0) (.int .u32 0)) := (HG3.out.fr hf Hne.out).other _ Hne3.out
          clear hf hr ht hP HC3 HF3 HR3 HG3 HP3 hp3
          go_wp2_with fail
          generalize hya : v3.setCell ⟨g, 3, none⟩ (.int .i64 x3) = y4 at *
          clear hya c3 f3
          have HC4 : Hid (∀ _ : Unit, _) := fun _ => countI R s p4 99999999 y4 HR4.out hp4 hs (by omega) (by omega)
          cases hx4 : rdU s p4 99999999 with
          | none =>
            rw [hx4] at HC4
            go_wp2_with fail
            refine (HC4.out ()).mono ?_
            intro e v4 ht
            obtain ⟨hf, rfl⟩ := ht.no
            exact ⟨rfl, HF4.out.trans hf, .inr ⟨HD4.out.trans (kp4_no hx4), rfl⟩⟩
          | some yy4 =>
            obtain ⟨x4, p5⟩ := yy4
            rw [hx4] at HC4
            have HD5 : Hid (rr = _) := HD4.out.trans (kp4_yes hx4)
            obtain ⟨ff4, qq4, lb4, ub4⟩ := rdU_form hx4
            have hp5 := ff4.size hp4
            rw [← qq4] at hp5
            clear ff4 qq4
            clear hx4 HD4
            go_wp2_with fail
            refine (HC4.out ()).mono ?_
            intro e v4 ht
            obtain ⟨hf, rfl, hr⟩ := ht.yes
            have hP : Pn8 v4 g (.int .i64 x0) (.int .u64 (last + x1)) (.int .u64 (last + x1 + x2)) (.int .i64 x3) (.int .i64 0) (.int .i64 0) (.int .u32 0) (.int .u32 0) := HP4.out.fr hf Hne2.out
            have c4 : v4.cell? ⟨g, 4, none⟩ = some (.int .i64 0) := hP.cell 4
            have f4 := hP.free 4
            have HP5 : Hid (Pn8 (v4.setCell ⟨g, 4, none⟩ (.int .i64 x4)) g (.int .i64 x0) (.int .u64 (last + x1)) (.int .u64 (last + x1 + x2)) (.int .i64 x3) (.int .i64 x4) (.int .i64 0) (.int .u32 0) (.int .u32 0)) := Pn8.set4 hP _
            have HF5 : Hid (Fr R w (v4.setCell ⟨g, 4, none⟩ (.int .i64 x4))) := (HF4.out.trans hf).setOwn (by simp only; have := Hle3.out; omega) Hle3.out _
            have HR5 : Hid (RdI (v4.setCell ⟨g, 4, none⟩ (.int .i64 x4)) R s p5) := hr.other _ (Ne.symm Hne2.out)
            have HG5 : Hid (Pn8 (v4.setCell ⟨g, 4, none⟩ (.int .i64 x4)) w.heap.size (.int .i64 0) (.int .u64 0) (.int .u64 0) (.int .i64 0) (.int .i64 0) (.int .i64 0) (.int .u32 0) (.int .u32 0)) := (HG4.out.fr hf Hne.out).other _ Hne3.out
            clear hf hr ht hP HC4 HF4 HR4 HG4 HP4 hp4
            go_wp2_with fail
            generalize hya : v4.setCell ⟨g, 4, none⟩ (.int .i64 x4) = y5 at *
            clear hya c4 f4
            have HC5 : Hid (∀ _ : Unit, _) := fun _ => countI R s p5 65536 y5 HR5.out hp5 hs (by omega) (by omega)
            cases hx5 : rdU s p5 65536 with
            | none =>
              rw [hx5] at HC5
              go_wp2_with fail
              refine (HC5.out ()).mono ?_
              intro e v5 ht
              obtain ⟨hf, rfl⟩ := ht.no
              exact ⟨rfl, HF5.out.trans hf, .inr ⟨HD5.out.trans (kp5_no hx5), rfl⟩⟩
            | some yy5 =>
              obtain ⟨x5, p6⟩ := yy5
              rw [hx5] at HC5
              have HD6 : Hid (rr = _) := HD5.out.trans (kp5_yes hx5)
              obtain ⟨ff5, qq5, lb5, ub5⟩ := rdU_form hx5
              have hp6 := ff5.size hp5
              rw [← qq5] at hp6
              clear ff5 qq5
              clear hx5 HD5
              go_wp2_with fail
              refine (HC5.out ()).mono ?_
              intro e v5 ht
              obtain ⟨hf, rfl, hr⟩ := ht.yes
              have hP : Pn8 v5 g (.int .i64 x0) (.int .u64 (last + x1)) (.int .u64 (last + x1 + x2)) (.int .i64 x3) (.int .i64 x4) (.int .i64 0) (.int .u32 0) (.int .u32 0) := HP5.out.fr hf Hne2.out
              have c5 : v5.cell? ⟨g, 5, none⟩ = some (.int .i64 0) := hP.cell 5
              have f5 := hP.free 5
              have HP6 : Hid (Pn8 (v5.setCell ⟨g, 5, none⟩ (.int .i64 x5)) g (.int .i64 x0) (.int .u64 (last + x1)) (.int .u64 (last + x1 + x2)) (.int .i64 x3) (.int .i64 x4) (.int .i64 x5) (.int .u32 0) (.int .u32 0)) := Pn8.set5 hP _
              have HF6 : Hid (Fr R w (v5.setCell ⟨g, 5, none⟩ (.int .i64 x5))) := (HF5.out.trans hf).setOwn (by simp only; have := Hle3.out; omega) Hle3.out _
              have HR6 : Hid (RdI (v5.setCell ⟨g, 5, none⟩ (.int .i64 x5)) R s p6) := hr.other _ (Ne.symm Hne2.out)
              have HG6 : Hid (Pn8 (v5.setCell ⟨g, 5, none⟩ (.int .i64 x5)) w.heap.size (.int .i64 0) (.int .u64 0) (.int .u64 0) (.int .i64 0) (.int .i64 0) (.int .i64 0) (.int .u32 0) (.int .u32 0)) := (HG5.out.fr hf Hne.out).other _ Hne3.out
              clear hf hr ht hP HC5 HF5 HR5 HG5 HP5 hp5
              go_wp2_with fail
              generalize hya : v5.setCell ⟨g, 5, none⟩ (.int .i64 x5) = y6 at *
              clear hya c5 f5
              have HC6 : Hid (∀ _ : Unit, _) := fun _ => takeFI R s p6 y6 HR6.out hp6 hs
              cases hx6 : rdF4 s p6 with
              | none =>
                rw [hx6] at HC6
                go_wp2_with fail
                refine (HC6.out ()).mono ?_
                intro e v6 ht
                obtain ⟨hf, rfl⟩ := ht.no
                exact ⟨rfl, HF6.out.trans hf, .inr ⟨HD6.out.trans (kp6_no hx6), rfl⟩⟩
              | some yy6 =>
                obtain ⟨x6, p7⟩ := yy6
                rw [hx6] at HC6
                have HD7 : Hid (rr = _) := HD6.out.trans (kp6_yes hx6)
                obtain ⟨ff6, qq6, hp7, lb6, ub6⟩ := rdF4_form hx6
                clear ff6 qq6
                clear hx6 HD6
                go_wp2_with fail
                refine (HC6.out ()).mono ?_
                intro e v6 ht
                obtain ⟨hf, rfl, hr⟩ := ht.yes
                have hP : Pn8 v6 g (.int .i64 x0) (.int .u64 (last + x1)) (.int .u64 (last + x1 + x2)) (.int .i64 x3) (.int .i64 x4) (.int .i64 x5) (.int .u32 0) (.int .u32 0) := HP6.out.fr hf Hne2.out
                have c6 : v6.cell? ⟨g, 6, none⟩ = some (.int .u32 0) := hP.cell 6
                have f6 := hP.free 6
                have HP7 : Hid (Pn8 (v6.setCell ⟨g, 6, none⟩ (.int .u32 x6)) g (.int .i64 x0) (.int .u64 (last + x1)) (.int .u64 (last + x1 + x2)) (.int .i64 x3) (.int .i64 x4) (.int .i64 x5) (.int .u32 x6) (.int .u32 0)) := Pn8.set6 hP _
                have HF7 : Hid (Fr R w (v6.setCell ⟨g, 6, none⟩ (.int .u32 x6))) := (HF6.out.trans hf).setOwn (by simp only; have := Hle3.out; omega) Hle3.out _
                have HR7 : Hid (RdI (v6.setCell ⟨g, 6, none⟩ (.int .u32 x6)) R s p7) := hr.other _ (Ne.symm Hne2.out)
                have HG7 : Hid (Pn8 (v6.setCell ⟨g, 6, none⟩ (.int .u32 x6)) w.heap.size (.int .i64 0) (.int .u64 0) (.int .u64 0) (.int .i64 0) (.int .i64 0) (.int .i64 0) (.int .u32 0) (.int .u32 0)) := (HG6.out.fr hf Hne.out).other _ Hne3.out
                clear hf hr ht hP HC6 HF6 HR6 HG6 HP6 hp6
                go_wp2_with fail
                generalize hya : v6.setCell ⟨g, 6, none⟩ (.int .u32 x6) = y7 at *
                clear hya c6 f6
                have HC7 : Hid (∀ _ : Unit, _) := fun _ => takeFI R s p7 y7 HR7.out hp7 hs
                cases hx7 : rdF4 s p7 with
                | none =>
                  rw [hx7] at HC7
                  go_wp2_with fail
                  refine (HC7.out ()).mono ?_
                  intro e v7 ht
                  obtain ⟨hf, rfl⟩ := ht.no
                  exact ⟨rfl, HF7.out.trans hf, .inr ⟨HD7.out.trans (kp7_no hx7), rfl⟩⟩
                | some yy7 =>
                  obtain ⟨x7, p8⟩ := yy7
                  rw [hx7] at HC7
                  have HD8 : Hid (rr = _) := HD7.out.trans (kp7_yes hx7)
                  obtain ⟨ff7, qq7, hp8, lb7, ub7⟩ := rdF4_form hx7
                  clear ff7 qq7
                  clear hx7 HD7
                  go_wp2_with fail
                  refine (HC7.out ()).mono ?_
                  intro e v7 ht
                  obtain ⟨hf, rfl, hr⟩ := ht.yes
                  have hP : Pn8 v7 g (.int .i64 x0) (.int .u64 (last + x1)) (.int .u64 (last + x1 + x2)) (.int .i64 x3) (.int .i64 x4) (.int .i64 x5) (.int .u32 x6) (.int .u32 0) := HP7.out.fr hf Hne2.out
                  have c7 : v7.cell? ⟨g, 7, none⟩ = some (.int .u32 0) := hP.cell 7
                  have f7 := hP.free 7
                  have HP8 : Hid (Pn8 (v7.setCell ⟨g, 7, none⟩ (.int .u32 x7)) g (.int .i64 x0) (.int .u64 (last + x1)) (.int .u64 (last + x1 + x2)) (.int .i64 x3) (.int .i64 x4) (.int .i64 x5) (.int .u32 x6) (.int .u32 x7)) := Pn8.set7 hP _
                  have HF8 : Hid (Fr R w (v7.setCell ⟨g, 7, none⟩ (.int .u32 x7))) := (HF7.out.trans hf).setOwn (by simp only; have := Hle3.out; omega) Hle3.out _
                  have HR8 : Hid (RdI (v7.setCell ⟨g, 7, none⟩ (.int .u32 x7)) R s p8) := hr.other _ (Ne.symm Hne2.out)
                  have HG8 : Hid (Pn8 (v7.setCell ⟨g, 7, none⟩ (.int .u32 x7)) w.heap.size (.int .i64 0) (.int .u64 0) (.int .u64 0) (.int .i64 0) (.int .i64 0) (.int .i64 0) (.int .u32 0) (.int .u32 0)) := (HG7.out.fr hf Hne.out).other _ Hne3.out
                  have hG7 := HG7.out.fr hf Hne.out
                  have a0 : v7.cell? ⟨g, 0, none⟩ = some (.int .i64 x0) := hP.cell 0
                  have z0 : v7.cell? ⟨w.heap.size, 0, none⟩ = some (.int .i64 0) := hG7.cell 0
                  have o0 := hG7.free 0
                  have a1 : v7.cell? ⟨g, 1, none⟩ = some (.int .u64 (last + x1)) := hP.cell 1
                  have z1 : v7.cell? ⟨w.heap.size, 1, none⟩ = some (.int .u64 0) := hG7.cell 1
                  have o1 := hG7.free 1
                  have a2 : v7.cell? ⟨g, 2, none⟩ = some (.int .u64 (last + x1 + x2)) := hP.cell 2
                  have z2 : v7.cell? ⟨w.heap.size, 2, none⟩ = some (.int .u64 0) := hG7.cell 2
                  have o2 := hG7.free 2
                  have a3 : v7.cell? ⟨g, 3, none⟩ = some (.int .i64 x3) := hP.cell 3
                  have z3 : v7.cell? ⟨w.heap.size, 3, none⟩ = some (.int .i64 0) := hG7.cell 3
                  have o3 := hG7.free 3
                  have a4 : v7.cell? ⟨g, 4, none⟩ = some (.int .i64 x4) := hP.cell 4
                  have z4 : v7.cell? ⟨w.heap.size, 4, none⟩ = some (.int .i64 0) := hG7.cell 4
                  have o4 := hG7.free 4
                  have a5 : v7.cell? ⟨g, 5, none⟩ = some (.int .i64 x5) := hP.cell 5
                  have z5 : v7.cell? ⟨w.heap.size, 5, none⟩ = some (.int .i64 0) := hG7.cell 5
                  have o5 := hG7.free 5
                  have a6 : v7.cell? ⟨g, 6, none⟩ = some (.int .u32 x6) := hP.cell 6
                  have z6 : v7.cell? ⟨w.heap.size, 6, none⟩ = some (.int .u32 0) := hG7.cell 6
                  have o6 := hG7.free 6
                  have z7 : v7.cell? ⟨w.heap.size, 7, none⟩ = some (.int .u32 0) := hG7.cell 7
                  have o7 := hG7.free 7
                  have n1 := Hne3.out
                  have Hn0 : Hid (R ≠ w.heap.size) := Ne.symm Hne.out
                  clear hG7
                  clear hf hr ht hP HC7 HF7 HR7 HG7 HP7 hp7
                  generalize hg0 : w.heap.size = g0 at *
                  go_wp2
                  refine bodyPost_ret (ret_pn rfl _ _ ⟨x0, last + x1, last + x1 + x2, x3, x4, x5, x6, x7⟩ g0 (by rfl) (HG8.out.setAll _ _ _ _ _ _ _ _)) rfl ⟨((((((((HF8.out.setOwn (p := ⟨g0, 0, none⟩) (by simp only; omega) (by simp only; omega) _).setOwn (p := ⟨g0, 1, none⟩) (by simp only; omega) (by simp only; omega) _).setOwn (p := ⟨g0, 2, none⟩) (by simp only; omega) (by simp only; omega) _).setOwn (p := ⟨g0, 3, none⟩) (by simp only; omega) (by simp only; omega) _).setOwn (p := ⟨g0, 4, none⟩) (by simp only; omega) (by simp only; omega) _).setOwn (p := ⟨g0, 5, none⟩) (by simp only; omega) (by simp only; omega) _).setOwn (p := ⟨g0, 6, none⟩) (by simp only; omega) (by simp only; omega) _).setOwn (p := ⟨g0, 7, none⟩) (by simp only; omega) (by simp only; omega) _), .inl ⟨_, p8, HD8.out, rfl, ((((((((HR8.out.other (p := ⟨g0, 0, none⟩) _ Hn0.out).other (p := ⟨g0, 1, none⟩) _ Hn0.out).other (p := ⟨g0, 2, none⟩) _ Hn0.out).other (p := ⟨g0, 3, none⟩) _ Hn0.out).other (p := ⟨g0, 4, none⟩) _ Hn0.out).other (p := ⟨g0, 5, none⟩) _ Hn0.out).other (p := ⟨g0, 6, none⟩) _ Hn0.out).other (p := ⟨g0, 7, none⟩) _ Hn0.out)⟩⟩
end Go.Proofs.YtjceellpmopnkaaDoor
