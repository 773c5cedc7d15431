import Derived.Test.YtbfjnidpjmhfiaaGreatDoorMd1
import Derived.Test.YtbfjnidpjmhfiaaGreatDoorMf7
import Derived.OwnWalk
import Derived.Laws.OwnMore
import Derived.Laws.Rows
import Derived.Test.YtbfjnidpjmhfiaaGreatDoorMd2
import Derived.Defers
import Derived.Recover
import Derived.Laws.Pointers
namespace Go.Proofs.YtbfjnidpjmhfiaaGreatDoor
set_option linter.unusedSimpArgs false
open Go.ChangeShapes Go.WideShapes Go.ChangeAt Go.RowKit
set_option linter.unusedVariables false
set_option maxRecDepth 100000
/-- A pair's name, as a value. -/
def pnV (p : PN) : Value := .agg #[.int .i64 p.id, .int .u64 p.lo, .int .u64 p.hi, .int .i64 p.rows, .int .i64 p.gen, .int .i64 p.gone, .int .u32 p.ds, .int .u32 p.es]
/-- A pair's name in a block of its own. -/
def Pn8 (W : World) (g : Nat) (a b c d e f x y : Value) : Prop := W.heap[g]? = some (.cells #[a, b, c, d, e, f, x, y] 79 (0, 0))
theorem Pn8.cell {W : World} {g : Nat} {a b c d e f x y : Value} (h : Pn8 W g a b c d e f x y) (j : Nat) : W.cell? ⟨g, j, none⟩ = (#[a, b, c, d, e, f, x, y] : Array Value)[j]? := cells_at h j
theorem Pn8.free {W : World} {g : Nat} {a b c d e f x y : Value} (h : Pn8 W g a b c d e f x y) (j : Nat) : W.frozen? ⟨g, j, none⟩ = false := by
  unfold Pn8 at h
  simp [World.frozen?, h]
theorem Pn8.lt {W : World} {g : Nat} {a b c d e f x y : Value} (h : Pn8 W g a b c d e f x y) : g < W.heap.size := (Array.getElem?_eq_some_iff.1 h).1
theorem Pn8.fr {W W' : World} {g R : Nat} {a b c d e f x y : Value} (h : Pn8 W g a b c d e f x y) (hf : Fr R W W') (hn : g ≠ R) : Pn8 W' g a b c d e f x y := (hf.rest g h.lt hn).trans h
theorem Pn8.other {W : World} {g : Nat} {a b c d e f x y : Value} (h : Pn8 W g a b c d e f x y) {p : Addr} (v : Value) (hp : g ≠ p.block) : Pn8 (W.setCell p v) g a b c d e f x y := (Below.heap_setCell W p v g hp).trans h
theorem Pn8.set2 {W : World} {g : Nat} {a b c d e f x y : Value} (h : Pn8 W g a b c d e f x y) (v : Value) : Pn8 (W.setCell ⟨g, 2, none⟩ v) g a b v d e f x y := by
  unfold Pn8 at h ⊢
  simp [World.setCell, Array.getElem?_modify, h]
theorem Pn8.set3 {W : World} {g : Nat} {a b c d e f x y : Value} (h : Pn8 W g a b c d e f x y) (v : Value) : Pn8 (W.setCell ⟨g, 3, none⟩ v) g a b c v e f x y := by
  unfold Pn8 at h ⊢
  simp [World.setCell, Array.getElem?_modify, h]
theorem Pn8.set4 {W : World} {g : Nat} {a b c d e f x y : Value} (h : Pn8 W g a b c d e f x y) (v : Value) : Pn8 (W.setCell ⟨g, 4, none⟩ v) g a b c d v f x y := by
  unfold Pn8 at h ⊢
  simp [World.setCell, Array.getElem?_modify, h]
theorem Pn8.set5 {W : World} {g : Nat} {a b c d e f x y : Value} (h : Pn8 W g a b c d e f x y) (v : Value) : Pn8 (W.setCell ⟨g, 5, none⟩ v) g a b c d e v x y := by
  unfold Pn8 at h ⊢
  simp [World.setCell, Array.getElem?_modify, h]
theorem Pn8.set6 {W : World} {g : Nat} {a b c d e f x y : Value} (h : Pn8 W g a b c d e f x y) (v : Value) : Pn8 (W.setCell ⟨g, 6, none⟩ v) g a b c d e f v y := by
  unfold Pn8 at h ⊢
  simp [World.setCell, Array.getElem?_modify, h]
theorem Pn8.set7 {W : World} {g : Nat} {a b c d e f x y : Value} (h : Pn8 W g a b c d e f x y) (v : Value) : Pn8 (W.setCell ⟨g, 7, none⟩ v) g a b c d e f x v := by
  unfold Pn8 at h ⊢
  simp [World.setCell, Array.getElem?_modify, h]
theorem Pn8.setAll {W : World} {g : Nat} {a b c d e f x y : Value} (h : Pn8 W g a b c d e f x y) (a' b' c' d' e' f' x' y' : Value) : Pn8 ((((((((W.setCell ⟨g, 0, none⟩ a').setCell ⟨g, 1, none⟩ b').setCell ⟨g, 2, none⟩ c').setCell ⟨g, 3, none⟩ d').setCell ⟨g, 4, none⟩ e').setCell ⟨g, 5, none⟩ f').setCell ⟨g, 6, none⟩ x').setCell ⟨g, 7, none⟩ y') g a' b' c' d' e' f' x' y' := by
  unfold Pn8 at h ⊢
  simp [World.setCell, Array.getElem?_modify, h]
theorem infoPn : (Tryz.prog.info? 79).map (·.size) = some 8 := by kernel_rfl
theorem ret_pn {fn : Func} {p : Tmp} (h : fn.results = #[.cell p 79]) (tmps : Array Value) (w : World) (v : PN) (g : Nat) (hp : tmps.getD p undef = .pointer (some ⟨g, 0, none⟩)) (hg : Pn8 w g (.int .i64 v.id) (.int .u64 v.lo) (.int .u64 v.hi) (.int .i64 v.rows) (.int .i64 v.gen) (.int .i64 v.gone) (.int .u32 v.ds) (.int .u32 v.es)) :
    (results fn tmps).run Tryz.prog w = .ok (pnV v) w := by
  have hp' : tmps[p]?.getD undef = .pointer (some ⟨g, 0, none⟩) := by simpa using hp
  unfold Pn8 at hg
  simp [results, h, hp', asAddr, run_loadVar_row w g 79 79 _ (0, 0) _ hg Tryz.underlying79 rfl infoPn, pnV]
/-- How pairName goes on: what is read of the k-th number on. -/
def kp7 (s : ByteArray) (last upto : Int) (id lo hi rows gen gone ds : Int) (p : Nat) : Option (PN × Nat) := (rdF4 s p).bind fun x => some (⟨id, lo, hi, rows, gen, gone, ds, x.1⟩, x.2)
theorem kp7_no {s : ByteArray} {last upto : Int} {id lo hi rows gen gone ds : Int} {p : Nat} (h : rdF4 s p = none) : kp7 s last upto id lo hi rows gen gone ds p = none := by rw [kp7, h]; rfl
theorem kp7_yes {s : ByteArray} {last upto : Int} {id lo hi rows gen gone ds : Int} {p q : Nat} {x : Int} (h : rdF4 s p = some (x, q)) : kp7 s last upto id lo hi rows gen gone ds p = some (⟨id, lo, hi, rows, gen, gone, ds, x⟩, q) := by rw [kp7, h]; rfl
def kp6 (s : ByteArray) (last upto : Int) (id lo hi rows gen gone : Int) (p : Nat) : Option (PN × Nat) := (rdF4 s p).bind fun x => kp7 s last upto id lo hi rows gen gone x.1 x.2
theorem kp6_no {s : ByteArray} {last upto : Int} {id lo hi rows gen gone : Int} {p : Nat} (h : rdF4 s p = none) : kp6 s last upto id lo hi rows gen gone p = none := by rw [kp6, h]; rfl
theorem kp6_yes {s : ByteArray} {last upto : Int} {id lo hi rows gen gone : Int} {p q : Nat} {x : Int} (h : rdF4 s p = some (x, q)) : kp6 s last upto id lo hi rows gen gone p = kp7 s last upto id lo hi rows gen gone x q := by rw [kp6, h]; rfl
def kp5 (s : ByteArray) (last upto : Int) (id lo hi rows gen : Int) (p : Nat) : Option (PN × Nat) := (rdU s p 65536).bind fun x => kp6 s last upto id lo hi rows gen x.1 x.2
theorem kp5_no {s : ByteArray} {last upto : Int} {id lo hi rows gen : Int} {p : Nat} (h : rdU s p 65536 = none) : kp5 s last upto id lo hi rows gen p = none := by rw [kp5, h]; rfl
theorem kp5_yes {s : ByteArray} {last upto : Int} {id lo hi rows gen : Int} {p q : Nat} {x : Int} (h : rdU s p 65536 = some (x, q)) : kp5 s last upto id lo hi rows gen p = kp6 s last upto id lo hi rows gen x q := by rw [kp5, h]; rfl
def kp4 (s : ByteArray) (last upto : Int) (id lo hi rows : Int) (p : Nat) : Option (PN × Nat) := (rdU s p 99999999).bind fun x => kp5 s last upto id lo hi rows x.1 x.2
theorem kp4_no {s : ByteArray} {last upto : Int} {id lo hi rows : Int} {p : Nat} (h : rdU s p 99999999 = none) : kp4 s last upto id lo hi rows p = none := by rw [kp4, h]; rfl
theorem kp4_yes {s : ByteArray} {last upto : Int} {id lo hi rows : Int} {p q : Nat} {x : Int} (h : rdU s p 99999999 = some (x, q)) : kp4 s last upto id lo hi rows p = kp5 s last upto id lo hi rows x q := by rw [kp4, h]; rfl
def kp3 (s : ByteArray) (last upto : Int) (id lo hi : Int) (p : Nat) : Option (PN × Nat) := (rdU s p 65536).bind fun x => kp4 s last upto id lo hi x.1 x.2
theorem kp3_no {s : ByteArray} {last upto : Int} {id lo hi : Int} {p : Nat} (h : rdU s p 65536 = none) : kp3 s last upto id lo hi p = none := by rw [kp3, h]; rfl
theorem kp3_yes {s : ByteArray} {last upto : Int} {id lo hi : Int} {p q : Nat} {x : Int} (h : rdU s p 65536 = some (x, q)) : kp3 s last upto id lo hi p = kp4 s last upto id lo hi x q := by rw [kp3, h]; rfl
def kp2 (s : ByteArray) (last upto : Int) (id lo : Int) (p : Nat) : Option (PN × Nat) := (rdU s p (upto - lo)).bind fun x => kp3 s last upto id lo (lo + x.1) x.2
theorem kp2_no {s : ByteArray} {last upto : Int} {id lo : Int} {p : Nat} (h : rdU s p (upto - lo) = none) : kp2 s last upto id lo p = none := by rw [kp2, h]; rfl
theorem kp2_yes {s : ByteArray} {last upto : Int} {id lo : Int} {p q : Nat} {x : Int} (h : rdU s p (upto - lo) = some (x, q)) : kp2 s last upto id lo p = kp3 s last upto id lo (lo + x) q := by rw [kp2, h]; rfl
def kp1 (s : ByteArray) (last upto : Int) (id : Int) (p : Nat) : Option (PN × Nat) := (rdU s p (upto - last)).bind fun x => kp2 s last upto id (last + x.1) x.2
theorem kp1_no {s : ByteArray} {last upto : Int} {id : Int} {p : Nat} (h : rdU s p (upto - last) = none) : kp1 s last upto id p = none := by rw [kp1, h]; rfl
theorem kp1_yes {s : ByteArray} {last upto : Int} {id : Int} {p q : Nat} {x : Int} (h : rdU s p (upto - last) = some (x, q)) : kp1 s last upto id p = kp2 s last upto id (last + x) q := by rw [kp1, h]; rfl
def kp0 (s : ByteArray) (last upto : Int) (p : Nat) : Option (PN × Nat) := (rdU s p 99999999).bind fun x => kp1 s last upto  x.1 x.2
theorem kp0_no {s : ByteArray} {last upto : Int} {p : Nat} (h : rdU s p 99999999 = none) : kp0 s last upto  p = none := by rw [kp0, h]; rfl
theorem kp0_yes {s : ByteArray} {last upto : Int} {p q : Nat} {x : Int} (h : rdU s p 99999999 = some (x, q)) : kp0 s last upto  p = kp1 s last upto  x q := by rw [kp0, h]; rfl
theorem kp0_eq (s : ByteArray) (p : Nat) (last upto : Int) : rdPN s p last upto = kp0 s last upto p := rfl
theorem TookI.yes {R : Nat} {s : ByteArray} {w w' : World} {k : IntKind} {x : Int} {q : Nat} {e : Ending} (h : TookI R s w k (some (x, q)) e w') : Fr R w w' ∧ e = .returned (.int k x) ∧ RdI w' R s q := by
  obtain ⟨hf, ⟨x', q', hxx, he, hr⟩ | ⟨hxx, _⟩⟩ := h
  · injection hxx with hxx
    injection hxx with ha hb
    subst ha hb
    exact ⟨hf, he, hr⟩
  · cases hxx
theorem TookI.no {R : Nat} {s : ByteArray} {w w' : World} {k : IntKind} {e : Ending} (h : TookI R s w k none e w') : Fr R w w' ∧ e = oops 125 := by
  obtain ⟨hf, ⟨x', q', hxx, he, hr⟩ | ⟨_, he⟩⟩ := h
  · cases hxx
  · exact ⟨hf, he⟩
/-- A pair's name is read, and the reader stands behind it; or the reading gives up. -/
def PnI (R : Nat) (s : ByteArray) (w : World) (r : Option (PN × Nat)) (e : Ending) (w' : World) : Prop :=
  Fr R w w' ∧ ((∃ v q, r = some (v, q) ∧ e = .returned (pnV v) ∧ RdI w' R s q) ∨ (r = none ∧ e = oops 125))
set_option maxHeartbeats 25600000 in
theorem pairNameI (R : Nat) (s : ByteArray) (p : Nat) (last upto : Int) (w : World) (h : RdI w R s p) (hp : p ≤ s.size) (hs : s.size ≤ 1125899906842624) (h0 : 0 ≤ last) (h1 : last ≤ upto) (h2 : upto ≤ 4611686018427387903) :
    Calls Tryz.prog 69 #[.pointer (some ⟨R, 0, none⟩), .int .u64 last, .int .u64 upto] w (PnI R s w (rdPN s p last upto)) := by
  have HD0 : Hid (rdPN s p last upto = kp0 s last upto p) := kp0_eq s p last upto
  generalize rdPN s p last upto = rr at *
  have hRl := h.lt
  have Hne : Hid (w.heap.size ≠ R) := by show _ ≠ _; omega
  have hb0 : Below w.heap.size w (w.alloc (.cells #[.int .i64 0, .int .u64 0, .int .u64 0, .int .i64 0, .int .i64 0, .int .i64 0, .int .u32 0, .int .u32 0] 79)) := (Below.refl _ _).alloc (Nat.le_refl _) _
  have HR0 : Hid (RdI (w.alloc (.cells #[.int .i64 0, .int .u64 0, .int .u64 0, .int .i64 0, .int .i64 0, .int .i64 0, .int .u32 0, .int .u32 0] 79)) R s p) := h.later hb0
  have HF0 : Hid (Fr R w (w.alloc (.cells #[.int .i64 0, .int .u64 0, .int .u64 0, .int .i64 0, .int .i64 0, .int .i64 0, .int .u32 0, .int .u32 0] 79))) := (Fr.refl R w).alloc (Nat.le_of_lt hRl) _
  have HG0 : Hid (Pn8 (w.alloc (.cells #[.int .i64 0, .int .u64 0, .int .u64 0, .int .i64 0, .int .i64 0, .int .i64 0, .int .u32 0, .int .u32 0] 79)) w.heap.size (.int .i64 0) (.int .u64 0) (.int .u64 0) (.int .i64 0) (.int .i64 0) (.int .i64 0) (.int .u32 0) (.int .u32 0)) := heap_alloc_new w _
  have hp0 := hp
  clear h hb0 hp
  go_enter Tryz.func69, Tryz.ntmps69
  go_wp2_with fail
  generalize hz0 : w.alloc (.cells #[.int .i64 0, .int .u64 0, .int .u64 0, .int .i64 0, .int .i64 0, .int .i64 0, .int .u32 0, .int .u32 0] 79) = y0 at *
  clear hz0
  have HC0 : Hid (∀ _ : Unit, _) := fun _ => countI R s p 99999999 y0 HR0.out hp0 hs (by omega) (by omega)
  cases hx0 : rdU s p 99999999 with
  | none =>
    rw [hx0] at HC0
    refine (HC0.out ()).mono ?_
    intro e v0 ht
    obtain ⟨hf, rfl⟩ := ht.no
    exact ⟨rfl, HF0.out.trans hf, .inr ⟨HD0.out.trans (kp0_no hx0), rfl⟩⟩
  | some yy0 =>
    obtain ⟨x0, p1⟩ := yy0
    rw [hx0] at HC0
    have HD1 : Hid (rr = _) := HD0.out.trans (kp0_yes hx0)
    obtain ⟨ff0, qq0, lb0, ub0⟩ := rdU_form hx0
    have hp1 := ff0.size hp0
    rw [← qq0] at hp1
    clear ff0 qq0
    clear hx0 HD0
    refine (HC0.out ()).mono ?_
    intro e v0 ht
    obtain ⟨hf, rfl, hr⟩ := ht.yes
    have HF1 : Hid (Fr R w v0) := HF0.out.trans hf
    have HR1 : Hid (RdI v0 R s p1) := hr
    have HG1 : Hid (Pn8 v0 w.heap.size (.int .i64 0) (.int .u64 0) (.int .u64 0) (.int .i64 0) (.int .i64 0) (.int .i64 0) (.int .u32 0) (.int .u32 0)) := HG0.out.fr hf Hne.out
    clear hf hr ht HC0 HF0 HR0 HG0 hp0
    generalize hyy : v0 = y1 at *
    clear hyy
    have HC1 : Hid (∀ _ : Unit, _) := fun _ => numberI R s p1 (upto - last) y1 HR1.out hp1 hs
    cases hx1 : rdU s p1 (upto - last) with
    | none =>
      rw [hx1] at HC1
      go_wp2_with fail
      refine (HC1.out ()).mono ?_
      intro e v1 ht
      obtain ⟨hf, rfl⟩ := ht.no
      exact ⟨rfl, HF1.out.trans hf, .inr ⟨HD1.out.trans (kp1_no hx1), rfl⟩⟩
    | some yy1 =>
      obtain ⟨x1, p2⟩ := yy1
      rw [hx1] at HC1
      have HD2 : Hid (rr = _) := HD1.out.trans (kp1_yes hx1)
      obtain ⟨ff1, qq1, lb1, ub1⟩ := rdU_form hx1
      have hp2 := ff1.size hp1
      rw [← qq1] at hp2
      clear ff1 qq1
      clear hx1 HD1
      go_wp2_with fail
      refine (HC1.out ()).mono ?_
      intro e v1 ht
      obtain ⟨hf, rfl, hr⟩ := ht.yes
      have HF2 : Hid (Fr R w v1) := HF1.out.trans hf
      have HR2 : Hid (RdI v1 R s p2) := hr
      have HG2 : Hid (Pn8 v1 w.heap.size (.int .i64 0) (.int .u64 0) (.int .u64 0) (.int .i64 0) (.int .i64 0) (.int .i64 0) (.int .u32 0) (.int .u32 0)) := HG1.out.fr hf Hne.out
      clear hf hr ht HC1 HF1 HR1 HG1 hp1
      have hba : Below v1.heap.size v1 (v1.alloc (.cells #[.int .i64 x0, .int .u64 (last + x1), .int .u64 0, .int .i64 0, .int .i64 0, .int .i64 0, .int .u32 0, .int .u32 0] 79)) := (Below.refl _ _).alloc (Nat.le_refl _) _
      have HRa : Hid (RdI (v1.alloc (.cells #[.int .i64 x0, .int .u64 (last + x1), .int .u64 0, .int .i64 0, .int .i64 0, .int .i64 0, .int .u32 0, .int .u32 0] 79)) R s p2) := HR2.out.later hba
      have HFa : Hid (Fr R w (v1.alloc (.cells #[.int .i64 x0, .int .u64 (last + x1), .int .u64 0, .int .i64 0, .int .i64 0, .int .i64 0, .int .u32 0, .int .u32 0] 79))) := HF2.out.alloc (Nat.le_of_lt HR2.out.lt) _
      have HGa : Hid (Pn8 (v1.alloc (.cells #[.int .i64 x0, .int .u64 (last + x1), .int .u64 0, .int .i64 0, .int .i64 0, .int .i64 0, .int .u32 0, .int .u32 0] 79)) w.heap.size (.int .i64 0) (.int .u64 0) (.int .u64 0) (.int .i64 0) (.int .i64 0) (.int .i64 0) (.int .u32 0) (.int .u32 0)) := (hba.block _ HG2.out.lt).trans HG2.out
      have HPa : Hid (Pn8 (v1.alloc (.cells #[.int .i64 x0, .int .u64 (last + x1), .int .u64 0, .int .i64 0, .int .i64 0, .int .i64 0, .int .u32 0, .int .u32 0] 79)) v1.heap.size (.int .i64 x0) (.int .u64 (last + x1)) (.int .u64 0) (.int .i64 0) (.int .i64 0) (.int .i64 0) (.int .u32 0) (.int .u32 0)) := heap_alloc_new v1 _
      have Hne2 : Hid (v1.heap.size ≠ R) := (by have := HR2.out.lt; show _ ≠ _; omega)
      have Hne3 : Hid (w.heap.size ≠ v1.heap.size) := (by have := HG2.out.lt; show _ ≠ _; omega)
      have Hle3 : Hid (w.heap.size ≤ v1.heap.size) := (by have := HG2.out.lt; show _ ≤ _; omega)
      clear hba HR2 HF2 HG2
      go_wp2_with fail
      generalize hya : v1.alloc (.cells #[.int .i64 x0, .int .u64 (last + x1), .int .u64 0, .int .i64 0, .int .i64 0, .int .i64 0, .int .u32 0, .int .u32 0] 79) = y2 at *
      generalize hgg : v1.heap.size = g at *
      clear hya hgg
      have HR2 : Hid (RdI y2 R s p2) := HRa.out
      have HF2 : Hid (Fr R w y2) := HFa.out
      have HG2 : Hid (Pn8 y2 w.heap.size (.int .i64 0) (.int .u64 0) (.int .u64 0) (.int .i64 0) (.int .i64 0) (.int .i64 0) (.int .u32 0) (.int .u32 0)) := HGa.out
      have HP2 : Hid (Pn8 y2 g (.int .i64 x0) (.int .u64 (last + x1)) (.int .u64 0) (.int .i64 0) (.int .i64 0) (.int .i64 0) (.int .u32 0) (.int .u32 0)) := HPa.out
      clear HRa HFa HGa HPa
      have c1 : y2.cell? ⟨g, 1, none⟩ = some (.int .u64 (last + x1)) := HP2.out.cell 1
      have HC2 : Hid (∀ _ : Unit, _) := fun _ => numberI R s p2 (upto - (last + x1)) y2.drew HR2.out.drew hp2 hs
      have hup : IntKind.u64.wrap (upto - (last + x1)) = upto - (last + x1) := by rw [IntKind.wrap_u64]; omega
      cases hx2 : rdU s p2 (upto - (last + x1)) with
      | none =>
        rw [hx2] at HC2
        (refine wp_region_held_drew (S := (fun W => W.cell? ⟨g, 1, none⟩ = some (.int .u64 (last + x1)))) (by kernel_rfl) c1 (fun hHeld => ?_); simp only [List.size_toArray, List.length_cons, List.length_nil, Nat.reduceAdd, Array.replicate_succ, Array.replicate_zero, List.push_toArray, List.append_toArray, List.nil_append, List.cons_append])
        (refine tk0 (v := ?_) (by kernel_rfl) (by kernel_rfl) (by kernel_rfl) (fun _ _ _ h => h) (Or.inl ⟨by rfl, ?_⟩) (by assumption) ?_; rotate_left; (focus (intro w hSw; (try dsimp only at hSw); go_simp; (try first | (rw [dif_pos (by omega)]; simp only [Result.andThen_ok]) | rw [if_pos (by omega)]); (try with_reducible rfl); done)); try simp only [Act.put, List.setIfInBounds_toArray, List.set_cons_zero, List.set_cons_succ])
        (refine tk1 (v := ?_) (by kernel_rfl) (by kernel_rfl) (by kernel_rfl) (fun _ _ _ h => h) (Or.inl ⟨by rfl, ?_⟩) (by assumption) ?_; rotate_left; (focus (intro w hSw; (try dsimp only at hSw); go_simp; (try first | (rw [dif_pos (by omega)]; simp only [Result.andThen_ok]) | rw [if_pos (by omega)]); (try with_reducible rfl); done)); try simp only [Act.put, List.setIfInBounds_toArray, List.set_cons_zero, List.set_cons_succ])
        (refine tk2 (v := ?_) (by kernel_rfl) (by kernel_rfl) (by kernel_rfl) (fun _ _ _ h => h) (Or.inl ⟨by rfl, ?_⟩) (by assumption) ?_; rotate_left; (focus (intro w hSw; (try dsimp only at hSw); go_simp; (try first | (rw [dif_pos (by omega)]; simp only [Result.andThen_ok]) | rw [if_pos (by omega)]); (try with_reducible rfl); done)); try simp only [Act.put, List.setIfInBounds_toArray, List.set_cons_zero, List.set_cons_succ])
        (refine tk3 (v := ?_) (by kernel_rfl) (by kernel_rfl) (by kernel_rfl) (fun _ _ _ h => h) (Or.inl ⟨by rfl, ?_⟩) (by assumption) ?_; rotate_left; (focus (intro w hSw; (try dsimp only at hSw); go_simp; (try first | (rw [dif_pos (by omega)]; simp only [Result.andThen_ok]) | rw [if_pos (by omega)]); (try with_reducible rfl); done)); try simp only [Act.put, List.setIfInBounds_toArray, List.set_cons_zero, List.set_cons_succ])
        (refine tk4 (v := ?_) (by kernel_rfl) (by kernel_rfl) (by kernel_rfl) (fun _ _ _ h => h) (Or.inl ⟨by rfl, ?_⟩) (by assumption) ?_; rotate_left; (focus (intro w hSw; (try dsimp only at hSw); go_simp; (try first | (rw [dif_pos (by omega)]; simp only [Result.andThen_ok]) | rw [if_pos (by omega)]); (try with_reducible rfl); done)); try simp only [Act.put, List.setIfInBounds_toArray, List.set_cons_zero, List.set_cons_succ])
        (refine tk5 (v := ?_) (by kernel_rfl) (by kernel_rfl) (by kernel_rfl) (fun _ _ _ h => h) (Or.inl ⟨by rfl, ?_⟩) (by assumption) ?_; rotate_left; (focus (intro w hSw; (try dsimp only at hSw); go_simp; (try first | (rw [dif_pos (by omega)]; simp only [Result.andThen_ok]) | rw [if_pos (by omega)]); (try with_reducible rfl); done)); try simp only [Act.put, List.setIfInBounds_toArray, List.set_cons_zero, List.set_cons_succ])
        (refine tk6 (v := ?_) (by kernel_rfl) (by kernel_rfl) (by kernel_rfl) (fun _ _ _ h => h) (Or.inl ⟨by rfl, ?_⟩) (by assumption) ?_; rotate_left; (focus (intro w hSw; (try dsimp only at hSw); go_simp; (try first | (rw [dif_pos (by omega)]; simp only [Result.andThen_ok]) | rw [if_pos (by omega)]); (try with_reducible rfl); done)); try simp only [Act.put, List.setIfInBounds_toArray, List.set_cons_zero, List.set_cons_succ])
        (refine wpAnyH_ready (rs := [7]) (by kernel_rfl) (by simp) ?_; refine ar7 (fun K hK => ?_) AllReadyH.nil; go_simp)
        refine (HC2.out ()).mono ?_
        intro e v2 ht
        obtain ⟨hf, rfl⟩ := ht.no
        exact ⟨rfl, HF2.out.drew.trans hf, .inr ⟨HD2.out.trans (kp2_no hx2), rfl⟩⟩
      | some yy2 =>
        obtain ⟨x2, p3⟩ := yy2
        rw [hx2] at HC2
        have HD3 : Hid (rr = kp3 s last upto x0 (last + x1) (last + x1 + x2) p3) := HD2.out.trans (kp2_yes hx2)
        obtain ⟨ff2, qq2, lb2, ub2⟩ := rdU_form hx2
        have hp3 := ff2.size hp2
        rw [← qq2] at hp3
        clear ff2 qq2 hx2 HD2
        have hup2 : IntKind.u64.wrap (last + x1 + x2) = last + x1 + x2 := by rw [IntKind.wrap_u64]; omega
        (refine wp_region_held_drew (S := (fun W => W.cell? ⟨g, 1, none⟩ = some (.int .u64 (last + x1)))) (by kernel_rfl) c1 (fun hHeld => ?_); simp only [List.size_toArray, List.length_cons, List.length_nil, Nat.reduceAdd, Array.replicate_succ, Array.replicate_zero, List.push_toArray, List.append_toArray, List.nil_append, List.cons_append])
        (refine tk0 (v := ?_) (by kernel_rfl) (by kernel_rfl) (by kernel_rfl) (fun _ _ _ h => h) (Or.inl ⟨by rfl, ?_⟩) (by assumption) ?_; rotate_left; (focus (intro w hSw; (try dsimp only at hSw); go_simp; (try first | (rw [dif_pos (by omega)]; simp only [Result.andThen_ok]) | rw [if_pos (by omega)]); (try with_reducible rfl); done)); try simp only [Act.put, List.setIfInBounds_toArray, List.set_cons_zero, List.set_cons_succ])
        (refine tk1 (v := ?_) (by kernel_rfl) (by kernel_rfl) (by kernel_rfl) (fun _ _ _ h => h) (Or.inl ⟨by rfl, ?_⟩) (by assumption) ?_; rotate_left; (focus (intro w hSw; (try dsimp only at hSw); go_simp; (try first | (rw [dif_pos (by omega)]; simp only [Result.andThen_ok]) | rw [if_pos (by omega)]); (try with_reducible rfl); done)); try simp only [Act.put, List.setIfInBounds_toArray, List.set_cons_zero, List.set_cons_succ])
        (refine tk2 (v := ?_) (by kernel_rfl) (by kernel_rfl) (by kernel_rfl) (fun _ _ _ h => h) (Or.inl ⟨by rfl, ?_⟩) (by assumption) ?_; rotate_left; (focus (intro w hSw; (try dsimp only at hSw); go_simp; (try first | (rw [dif_pos (by omega)]; simp only [Result.andThen_ok]) | rw [if_pos (by omega)]); (try with_reducible rfl); done)); try simp only [Act.put, List.setIfInBounds_toArray, List.set_cons_zero, List.set_cons_succ])
        (refine tk3 (v := ?_) (by kernel_rfl) (by kernel_rfl) (by kernel_rfl) (fun _ _ _ h => h) (Or.inl ⟨by rfl, ?_⟩) (by assumption) ?_; rotate_left; (focus (intro w hSw; (try dsimp only at hSw); go_simp; (try first | (rw [dif_pos (by omega)]; simp only [Result.andThen_ok]) | rw [if_pos (by omega)]); (try with_reducible rfl); done)); try simp only [Act.put, List.setIfInBounds_toArray, List.set_cons_zero, List.set_cons_succ])
        (refine tk4 (v := ?_) (by kernel_rfl) (by kernel_rfl) (by kernel_rfl) (fun _ _ _ h => h) (Or.inl ⟨by rfl, ?_⟩) (by assumption) ?_; rotate_left; (focus (intro w hSw; (try dsimp only at hSw); go_simp; (try first | (rw [dif_pos (by omega)]; simp only [Result.andThen_ok]) | rw [if_pos (by omega)]); (try with_reducible rfl); done)); try simp only [Act.put, List.setIfInBounds_toArray, List.set_cons_zero, List.set_cons_succ])
        (refine tk5 (v := ?_) (by kernel_rfl) (by kernel_rfl) (by kernel_rfl) (fun _ _ _ h => h) (Or.inl ⟨by rfl, ?_⟩) (by assumption) ?_; rotate_left; (focus (intro w hSw; (try dsimp only at hSw); go_simp; (try first | (rw [dif_pos (by omega)]; simp only [Result.andThen_ok]) | rw [if_pos (by omega)]); (try with_reducible rfl); done)); try simp only [Act.put, List.setIfInBounds_toArray, List.set_cons_zero, List.set_cons_succ])
        (refine tk6 (v := ?_) (by kernel_rfl) (by kernel_rfl) (by kernel_rfl) (fun _ _ _ h => h) (Or.inl ⟨by rfl, ?_⟩) (by assumption) ?_; rotate_left; (focus (intro w hSw; (try dsimp only at hSw); go_simp; (try first | (rw [dif_pos (by omega)]; simp only [Result.andThen_ok]) | rw [if_pos (by omega)]); (try with_reducible rfl); done)); try simp only [Act.put, List.setIfInBounds_toArray, List.set_cons_zero, List.set_cons_succ])
        (refine wpAnyH_ready (rs := [7]) (by kernel_rfl) (by simp) ?_; refine ar7 (fun K hK => ?_) AllReadyH.nil; go_simp)
        refine (HC2.out ()).mono ?_
        intro e v2 ht
        obtain ⟨hf, rfl, hr⟩ := ht.yes
        have HP3 : Pn8 v2 g (.int .i64 x0) (.int .u64 (last + x1)) (.int .u64 0) (.int .i64 0) (.int .i64 0) (.int .i64 0) (.int .u32 0) (.int .u32 0) := Pn8.fr (W := y2.drew) HP2.out hf Hne2.out
        have c2 : v2.cell? ⟨g, 1, none⟩ = some (.int .u64 (last + x1)) := HP3.cell 1
        have c3 : v2.cell? ⟨g, 2, none⟩ = some (.int .u64 0) := HP3.cell 2
        have f3 := HP3.free 2
        have HP4 : Hid (Pn8 (v2.setCell ⟨g, 2, none⟩ (.int .u64 (last + x1 + x2))) g (.int .i64 x0) (.int .u64 (last + x1)) (.int .u64 (last + x1 + x2)) (.int .i64 0) (.int .i64 0) (.int .i64 0) (.int .u32 0) (.int .u32 0)) := Pn8.set2 HP3 _
        have HF4 : Hid (Fr R w (v2.setCell ⟨g, 2, none⟩ (.int .u64 (last + x1 + x2)))) := (HF2.out.drew.trans hf).setOwn (by simp only; have := Hle3.out; omega) Hle3.out _
        have HR4 : Hid (RdI (v2.setCell ⟨g, 2, none⟩ (.int .u64 (last + x1 + x2))) R s p3) := hr.other _ (Ne.symm Hne2.out)
        have HG4 : Hid (Pn8 (v2.setCell ⟨g, 2, none⟩ (.int .u64 (last + x1 + x2))) w.heap.size (.int .i64 0) (.int .u64 0) (.int .u64 0) (.int .i64 0) (.int .i64 0) (.int .i64 0) (.int .u32 0) (.int .u32 0)) := (Pn8.fr (W := y2.drew) HG2.out hf Hne.out).other _ Hne3.out
        have c4 : (v2.setCell ⟨g, 2, none⟩ (.int .u64 (last + x1 + x2))).cell? ⟨g, 1, none⟩ = some (.int .u64 (last + x1)) := HP4.out.cell 1
        clear hf hr ht HC2 HF2 HR2 HG2 HP2 hp2 HP3
        go_wp2_with fail
        (refine hK.out _ _ c2 (fun hHeld => ?_); clear hK K; try simp only [Act.put, List.setIfInBounds_toArray, List.set_cons_zero, List.set_cons_succ])
        (refine tk8 (v := ?_) (by kernel_rfl) (by kernel_rfl) (by kernel_rfl) (fun _ _ _ h => h) (Or.inl ⟨by rfl, ?_⟩) (by assumption) ?_; rotate_left; (focus (intro w hSw; (try dsimp only at hSw); go_simp; (try first | (rw [dif_pos (by omega)]; simp only [Result.andThen_ok]) | rw [if_pos (by omega)]); (try with_reducible rfl); done)); try simp only [Act.put, List.setIfInBounds_toArray, List.set_cons_zero, List.set_cons_succ])
        (refine tk9 (v := ?_) (by kernel_rfl) (by kernel_rfl) (by kernel_rfl) (fun _ _ _ h => h) (Or.inl ⟨by rfl, ?_⟩) (by assumption) ?_; rotate_left; (focus (intro w hSw; (try dsimp only at hSw); go_simp; (try first | (rw [dif_pos (by omega)]; simp only [Result.andThen_ok]) | rw [if_pos (by omega)]); (try with_reducible rfl); done)); try simp only [Act.put, List.setIfInBounds_toArray, List.set_cons_zero, List.set_cons_succ])
        (refine wpAnyH_ready (rs := [10]) (by kernel_rfl) (by simp) ?_; refine ar10 (fun K hK => ?_) AllReadyH.nil; go_simp)
        (refine hK.out _ _ c4 (fun hHeld => ?_); clear hK K; try simp only [Act.put, List.setIfInBounds_toArray, List.set_cons_zero, List.set_cons_succ])
        refine wpAnyH_done (by kernel_rfl) ?_ _
        generalize hya : v2.setCell ⟨g, 2, none⟩ (.int .u64 (last + x1 + x2)) = y3 at *
        clear hya c1 c2 c3 c4 f3 hup hup2 hHeld
        have HR3 : Hid (RdI y3 R s p3) := HR4.out
        have HF3 : Hid (Fr R w y3) := HF4.out
        have HG3 : Hid (Pn8 y3 w.heap.size (.int .i64 0) (.int .u64 0) (.int .u64 0) (.int .i64 0) (.int .i64 0) (.int .i64 0) (.int .u32 0) (.int .u32 0)) := HG4.out
        have HP3 : Hid (Pn8 y3 g (.int .i64 x0) (.int .u64 (last + x1)) (.int .u64 (last + x1 + x2)) (.int .i64 0) (.int .i64 0) (.int .i64 0) (.int .u32 0) (.int .u32 0)) := HP4.out
        clear HR4 HF4 HG4 HP4
        have HC3 : Hid (∀ _ : Unit, _) := fun _ => countI R s p3 65536 y3 HR3.out hp3 hs (by omega) (by omega)
        cases hx3 : rdU s p3 65536 with
        | none =>
          rw [hx3] at HC3
          go_wp2_with fail
          refine (HC3.out ()).mono ?_
          intro e v3 ht
          obtain ⟨hf, rfl⟩ := ht.no
          exact ⟨rfl, HF3.out.trans hf, .inr ⟨HD3.out.trans (kp3_no hx3), rfl⟩⟩
        | some yy3 =>
          obtain ⟨x3, p4⟩ := yy3
          rw [hx3] at HC3
          have HD4 : Hid (rr = _) := HD3.out.trans (kp3_yes hx3)
          obtain ⟨ff3, qq3, lb3, ub3⟩ := rdU_form hx3
          have hp4 := ff3.size hp3
          rw [← qq3] at hp4
          clear ff3 qq3
          clear hx3 HD3
          go_wp2_with fail
          refine (HC3.out ()).mono ?_
          intro e v3 ht
          obtain ⟨hf, rfl, hr⟩ := ht.yes
          have hP : Pn8 v3 g (.int .i64 x0) (.int .u64 (last + x1)) (.int .u64 (last + x1 + x2)) (.int .i64 0) (.int .i64 0) (.int .i64 0) (.int .u32 0) (.int .u32 0) := HP3.out.fr hf Hne2.out
          have c3 : v3.cell? ⟨g, 3, none⟩ = some (.int .i64 0) := hP.cell 3
          have f3 := hP.free 3
          have HP4 : Hid (Pn8 (v3.setCell ⟨g, 3, none⟩ (.int .i64 x3)) g (.int .i64 x0) (.int .u64 (last + x1)) (.int .u64 (last + x1 + x2)) (.int .i64 x3) (.int .i64 0) (.int .i64 0) (.int .u32 0) (.int .u32 0)) := Pn8.set3 hP _
          have HF4 : Hid (Fr R w (v3.setCell ⟨g, 3, none⟩ (.int .i64 x3))) := (HF3.out.trans hf).setOwn (by simp only; have := Hle3.out; omega) Hle3.out _
          have HR4 : Hid (RdI (v3.setCell ⟨g, 3, none⟩ (.int .i64 x3)) R s p4) := hr.other _ (Ne.symm Hne2.out)
          have HG4 : Hid (Pn8 (v3.setCell ⟨g, 3, none⟩ (.int .i64 x3)) w.heap.size (.int .i64 0) (.int .u64 0) (.int .u64 0) (.int .i64 0) (.int .i64 0) (.int .i64 0) (.int .u32 0) (.int .u32 0)) := (HG3.out.fr hf Hne.out).other _ Hne3.out
          clear hf hr ht hP HC3 HF3 HR3 HG3 HP3 hp3
          go_wp2_with fail
          generalize hya : v3.setCell ⟨g, 3, none⟩ (.int .i64 x3) = y4 at *
          clear hya c3 f3
          have HC4 : Hid (∀ _ : Unit, _) := fun _ => countI R s p4 99999999 y4 HR4.out hp4 hs (by omega) (by omega)
          cases hx4 : rdU s p4 99999999 with
          | none =>
            rw [hx4] at HC4
            go_wp2_with fail
            refine (HC4.out ()).mono ?_
            intro e v4 ht
            obtain ⟨hf, rfl⟩ := ht.no
            exact ⟨rfl, HF4.out.trans hf, .inr ⟨HD4.out.trans (kp4_no hx4), rfl⟩⟩
          | some yy4 =>
            obtain ⟨x4, p5⟩ := yy4
            rw [hx4] at HC4
            have HD5 : Hid (rr = _) := HD4.out.trans (kp4_yes hx4)
            obtain ⟨ff4, qq4, lb4, ub4⟩ := rdU_form hx4
            have hp5 := ff4.size hp4
            rw [← qq4] at hp5
            clear ff4 qq4
            clear hx4 HD4
            go_wp2_with fail
            refine (HC4.out ()).mono ?_
            intro e v4 ht
            obtain ⟨hf, rfl, hr⟩ := ht.yes
            have hP : Pn8 v4 g (.int .i64 x0) (.int .u64 (last + x1)) (.int .u64 (last + x1 + x2)) (.int .i64 x3) (.int .i64 0) (.int .i64 0) (.int .u32 0) (.int .u32 0) := HP4.out.fr hf Hne2.out
            have c4 : v4.cell? ⟨g, 4, none⟩ = some (.int .i64 0) := hP.cell 4
            have f4 := hP.free 4
            have HP5 : Hid (Pn8 (v4.setCell ⟨g, 4, none⟩ (.int .i64 x4)) g (.int .i64 x0) (.int .u64 (last + x1)) (.int .u64 (last + x1 + x2)) (.int .i64 x3) (.int .i64 x4) (.int .i64 0) (.int .u32 0) (.int .u32 0)) := Pn8.set4 hP _
            have HF5 : Hid (Fr R w (v4.setCell ⟨g, 4, none⟩ (.int .i64 x4))) := (HF4.out.trans hf).setOwn (by simp only; have := Hle3.out; omega) Hle3.out _
            have HR5 : Hid (RdI (v4.setCell ⟨g, 4, none⟩ (.int .i64 x4)) R s p5) := hr.other _ (Ne.symm Hne2.out)
            have HG5 : Hid (Pn8 (v4.setCell ⟨g, 4, none⟩ (.int .i64 x4)) w.heap.size (.int .i64 0) (.int .u64 0) (.int .u64 0) (.int .i64 0) (.int .i64 0) (.int .i64 0) (.int .u32 0) (.int .u32 0)) := (HG4.out.fr hf Hne.out).other _ Hne3.out
            clear hf hr ht hP HC4 HF4 HR4 HG4 HP4 hp4
            go_wp2_with fail
            generalize hya : v4.setCell ⟨g, 4, none⟩ (.int .i64 x4) = y5 at *
            clear hya c4 f4
            have HC5 : Hid (∀ _ : Unit, _) := fun _ => countI R s p5 65536 y5 HR5.out hp5 hs (by omega) (by omega)
            cases hx5 : rdU s p5 65536 with
            | none =>
              rw [hx5] at HC5
              go_wp2_with fail
              refine (HC5.out ()).mono ?_
              intro e v5 ht
              obtain ⟨hf, rfl⟩ := ht.no
              exact ⟨rfl, HF5.out.trans hf, .inr ⟨HD5.out.trans (kp5_no hx5), rfl⟩⟩
            | some yy5 =>
              obtain ⟨x5, p6⟩ := yy5
              rw [hx5] at HC5
              have HD6 : Hid (rr = _) := HD5.out.trans (kp5_yes hx5)
              obtain ⟨ff5, qq5, lb5, ub5⟩ := rdU_form hx5
              have hp6 := ff5.size hp5
              rw [← qq5] at hp6
              clear ff5 qq5
              clear hx5 HD5
              go_wp2_with fail
              refine (HC5.out ()).mono ?_
              intro e v5 ht
              obtain ⟨hf, rfl, hr⟩ := ht.yes
              have hP : Pn8 v5 g (.int .i64 x0) (.int .u64 (last + x1)) (.int .u64 (last + x1 + x2)) (.int .i64 x3) (.int .i64 x4) (.int .i64 0) (.int .u32 0) (.int .u32 0) := HP5.out.fr hf Hne2.out
              have c5 : v5.cell? ⟨g, 5, none⟩ = some (.int .i64 0) := hP.cell 5
              have f5 := hP.free 5
              have HP6 : Hid (Pn8 (v5.setCell ⟨g, 5, none⟩ (.int .i64 x5)) g (.int .i64 x0) (.int .u64 (last + x1)) (.int .u64 (last + x1 + x2)) (.int .i64 x3) (.int .i64 x4) (.int .i64 x5) (.int .u32 0) (.int .u32 0)) := Pn8.set5 hP _
              have HF6 : Hid (Fr R w (v5.setCell ⟨g, 5, none⟩ (.int .i64 x5))) := (HF5.out.trans hf).setOwn (by simp only; have := Hle3.out; omega) Hle3.out _
              have HR6 : Hid (RdI (v5.setCell ⟨g, 5, none⟩ (.int .i64 x5)) R s p6) := hr.other _ (Ne.symm Hne2.out)
              have HG6 : Hid (Pn8 (v5.setCell ⟨g, 5, none⟩ (.int .i64 x5)) w.heap.size (.int .i64 0) (.int .u64 0) (.int .u64 0) (.int .i64 0) (.int .i64 0) (.int .i64 0) (.int .u32 0) (.int .u32 0)) := (HG5.out.fr hf Hne.out).other _ Hne3.out
              clear hf hr ht hP HC5 HF5 HR5 HG5 HP5 hp5
              go_wp2_with fail
              generalize hya : v5.setCell ⟨g, 5, none⟩ (.int .i64 x5) = y6 at *
              clear hya c5 f5
              have HC6 : Hid (∀ _ : Unit, _) := fun _ => takeFI R s p6 y6 HR6.out hp6 hs
              cases hx6 : rdF4 s p6 with
              | none =>
                rw [hx6] at HC6
                go_wp2_with fail
                refine (HC6.out ()).mono ?_
                intro e v6 ht
                obtain ⟨hf, rfl⟩ := ht.no
                exact ⟨rfl, HF6.out.trans hf, .inr ⟨HD6.out.trans (kp6_no hx6), rfl⟩⟩
              | some yy6 =>
                obtain ⟨x6, p7⟩ := yy6
                rw [hx6] at HC6
                have HD7 : Hid (rr = _) := HD6.out.trans (kp6_yes hx6)
                obtain ⟨ff6, qq6, hp7, lb6, ub6⟩ := rdF4_form hx6
                clear ff6 qq6
                clear hx6 HD6
                go_wp2_with fail
                refine (HC6.out ()).mono ?_
                intro e v6 ht
                obtain ⟨hf, rfl, hr⟩ := ht.yes
                have hP : Pn8 v6 g (.int .i64 x0) (.int .u64 (last + x1)) (.int .u64 (last + x1 + x2)) (.int .i64 x3) (.int .i64 x4) (.int .i64 x5) (.int .u32 0) (.int .u32 0) := HP6.out.fr hf Hne2.out
                have c6 : v6.cell? ⟨g, 6, none⟩ = some (.int .u32 0) := hP.cell 6
                have f6 := hP.free 6
                have HP7 : Hid (Pn8 (v6.setCell ⟨g, 6, none⟩ (.int .u32 x6)) g (.int .i64 x0) (.int .u64 (last + x1)) (.int .u64 (last + x1 + x2)) (.int .i64 x3) (.int .i64 x4) (.int .i64 x5) (.int .u32 x6) (.int .u32 0)) := Pn8.set6 hP _
                have HF7 : Hid (Fr R w (v6.setCell ⟨g, 6, none⟩ (.int .u32 x6))) := (HF6.out.trans hf).setOwn (by simp only; have := Hle3.out; omega) Hle3.out _
                have HR7 : Hid (RdI (v6.setCell ⟨g, 6, none⟩ (.int .u32 x6)) R s p7) := hr.other _ (Ne.symm Hne2.out)
                have HG7 : Hid (Pn8 (v6.setCell ⟨g, 6, none⟩ (.int .u32 x6)) w.heap.size (.int .i64 0) (.int .u64 0) (.int .u64 0) (.int .i64 0) (.int .i64 0) (.int .i64 0) (.int .u32 0) (.int .u32 0)) := (HG6.out.fr hf Hne.out).other _ Hne3.out
                clear hf hr ht hP HC6 HF6 HR6 HG6 HP6 hp6
                go_wp2_with fail
                generalize hya : v6.setCell ⟨g, 6, none⟩ (.int .u32 x6) = y7 at *
                clear hya c6 f6
                have HC7 : Hid (∀ _ : Unit, _) := fun _ => takeFI R s p7 y7 HR7.out hp7 hs
                cases hx7 : rdF4 s p7 with
                | none =>
                  rw [hx7] at HC7
                  go_wp2_with fail
                  refine (HC7.out ()).mono ?_
                  intro e v7 ht
                  obtain ⟨hf, rfl⟩ := ht.no
                  exact ⟨rfl, HF7.out.trans hf, .inr ⟨HD7.out.trans (kp7_no hx7), rfl⟩⟩
                | some yy7 =>
                  obtain ⟨x7, p8⟩ := yy7
                  rw [hx7] at HC7
                  have HD8 : Hid (rr = _) := HD7.out.trans (kp7_yes hx7)
                  obtain ⟨ff7, qq7, hp8, lb7, ub7⟩ := rdF4_form hx7
                  clear ff7 qq7
                  clear hx7 HD7
                  go_wp2_with fail
                  refine (HC7.out ()).mono ?_
                  intro e v7 ht
                  obtain ⟨hf, rfl, hr⟩ := ht.yes
                  have hP : Pn8 v7 g (.int .i64 x0) (.int .u64 (last + x1)) (.int .u64 (last + x1 + x2)) (.int .i64 x3) (.int .i64 x4) (.int .i64 x5) (.int .u32 x6) (.int .u32 0) := HP7.out.fr hf Hne2.out
                  have c7 : v7.cell? ⟨g, 7, none⟩ = some (.int .u32 0) := hP.cell 7
                  have f7 := hP.free 7
                  have HP8 : Hid (Pn8 (v7.setCell ⟨g, 7, none⟩ (.int .u32 x7)) g (.int .i64 x0) (.int .u64 (last + x1)) (.int .u64 (last + x1 + x2)) (.int .i64 x3) (.int .i64 x4) (.int .i64 x5) (.int .u32 x6) (.int .u32 x7)) := Pn8.set7 hP _
                  have HF8 : Hid (Fr R w (v7.setCell ⟨g, 7, none⟩ (.int .u32 x7))) := (HF7.out.trans hf).setOwn (by simp only; have := Hle3.out; omega) Hle3.out _
                  have HR8 : Hid (RdI (v7.setCell ⟨g, 7, none⟩ (.int .u32 x7)) R s p8) := hr.other _ (Ne.symm Hne2.out)
                  have HG8 : Hid (Pn8 (v7.setCell ⟨g, 7, none⟩ (.int .u32 x7)) w.heap.size (.int .i64 0) (.int .u64 0) (.int .u64 0) (.int .i64 0) (.int .i64 0) (.int .i64 0) (.int .u32 0) (.int .u32 0)) := (HG7.out.fr hf Hne.out).other _ Hne3.out
                  have hG7 := HG7.out.fr hf Hne.out
                  have a0 : v7.cell? ⟨g, 0, none⟩ = some (.int .i64 x0) := hP.cell 0
                  have z0 : v7.cell? ⟨w.heap.size, 0, none⟩ = some (.int .i64 0) := hG7.cell 0
                  have o0 := hG7.free 0
                  have a1 : v7.cell? ⟨g, 1, none⟩ = some (.int .u64 (last + x1)) := hP.cell 1
                  have z1 : v7.cell? ⟨w.heap.size, 1, none⟩ = some (.int .u64 0) := hG7.cell 1
                  have o1 := hG7.free 1
                  have a2 : v7.cell? ⟨g, 2, none⟩ = some (.int .u64 (last + x1 + x2)) := hP.cell 2
                  have z2 : v7.cell? ⟨w.heap.size, 2, none⟩ = some (.int .u64 0) := hG7.cell 2
                  have o2 := hG7.free 2
                  have a3 : v7.cell? ⟨g, 3, none⟩ = some (.int .i64 x3) := hP.cell 3
                  have z3 : v7.cell? ⟨w.heap.size, 3, none⟩ = some (.int .i64 0) := hG7.cell 3
                  have o3 := hG7.free 3
                  have a4 : v7.cell? ⟨g, 4, none⟩ = some (.int .i64 x4) := hP.cell 4
                  have z4 : v7.cell? ⟨w.heap.size, 4, none⟩ = some (.int .i64 0) := hG7.cell 4
                  have o4 := hG7.free 4
                  have a5 : v7.cell? ⟨g, 5, none⟩ = some (.int .i64 x5) := hP.cell 5
                  have z5 : v7.cell? ⟨w.heap.size, 5, none⟩ = some (.int .i64 0) := hG7.cell 5
                  have o5 := hG7.free 5
                  have a6 : v7.cell? ⟨g, 6, none⟩ = some (.int .u32 x6) := hP.cell 6
                  have z6 : v7.cell? ⟨w.heap.size, 6, none⟩ = some (.int .u32 0) := hG7.cell 6
                  have o6 := hG7.free 6
                  have z7 : v7.cell? ⟨w.heap.size, 7, none⟩ = some (.int .u32 0) := hG7.cell 7
                  have o7 := hG7.free 7
                  have n1 := Hne3.out
                  have Hn0 : Hid (R ≠ w.heap.size) := Ne.symm Hne.out
                  clear hG7
                  clear hf hr ht hP HC7 HF7 HR7 HG7 HP7 hp7
                  generalize hg0 : w.heap.size = g0 at *
                  go_wp2
                  refine bodyPost_ret (ret_pn rfl _ _ ⟨x0, last + x1, last + x1 + x2, x3, x4, x5, x6, x7⟩ g0 (by rfl) (HG8.out.setAll _ _ _ _ _ _ _ _)) rfl ⟨((((((((HF8.out.setOwn (p := ⟨g0, 0, none⟩) (by simp only; omega) (by simp only; omega) _).setOwn (p := ⟨g0, 1, none⟩) (by simp only; omega) (by simp only; omega) _).setOwn (p := ⟨g0, 2, none⟩) (by simp only; omega) (by simp only; omega) _).setOwn (p := ⟨g0, 3, none⟩) (by simp only; omega) (by simp only; omega) _).setOwn (p := ⟨g0, 4, none⟩) (by simp only; omega) (by simp only; omega) _).setOwn (p := ⟨g0, 5, none⟩) (by simp only; omega) (by simp only; omega) _).setOwn (p := ⟨g0, 6, none⟩) (by simp only; omega) (by simp only; omega) _).setOwn (p := ⟨g0, 7, none⟩) (by simp only; omega) (by simp only; omega) _), .inl ⟨_, p8, HD8.out, rfl, ((((((((HR8.out.other (p := ⟨g0, 0, none⟩) _ Hn0.out).other (p := ⟨g0, 1, none⟩) _ Hn0.out).other (p := ⟨g0, 2, none⟩) _ Hn0.out).other (p := ⟨g0, 3, none⟩) _ Hn0.out).other (p := ⟨g0, 4, none⟩) _ Hn0.out).other (p := ⟨g0, 5, none⟩) _ Hn0.out).other (p := ⟨g0, 6, none⟩) _ Hn0.out).other (p := ⟨g0, 7, none⟩) _ Hn0.out)⟩⟩
end Go.Proofs.YtbfjnidpjmhfiaaGreatDoor

namespace Go.Proofs.YtbfjnidpjmhfiaaGreatDoor
set_option linter.unusedSimpArgs false
open Go.ChangeShapes Go.WideShapes Go.ChangeAt Go.RowKit
set_option linter.unusedVariables false
set_option maxRecDepth 100000
theorem infoP : (Tryz.prog.info? 79).map (fun i => (i.zero, i.size, i.bytes)) = some (some (.agg #[.int .i64 0, .int .u64 0, .int .u64 0, .int .i64 0, .int .i64 0, .int .i64 0, .int .u32 0, .int .u32 0]), 8, 56) := by kernel_rfl
def cellP (a : PN) : List Value := [.int .i64 a.id, .int .u64 a.lo, .int .u64 a.hi, .int .i64 a.rows, .int .i64 a.gen, .int .i64 a.gone, .int .u32 a.ds, .int .u32 a.es]
def cellsP (vs : List PN) : List Value := vs.flatMap cellP
theorem cellsP_cons (v : PN) (vs : List PN) : cellsP (v :: vs) = .int .i64 v.id :: .int .u64 v.lo :: .int .u64 v.hi :: .int .i64 v.rows :: .int .i64 v.gen :: .int .i64 v.gone :: .int .u32 v.ds :: .int .u32 v.es :: cellsP vs := rfl
theorem cellsP_len : ∀ vs, (cellsP vs).length = vs.length * 8
  | [] => rfl
  | v :: vs => by
    rw [cellsP_cons]
    simp only [List.length_cons, cellsP_len vs]; omega
theorem cellsP_app (xs ys : List PN) : cellsP (xs ++ ys) = cellsP xs ++ cellsP ys := by simp [cellsP]
structure PnIn (l : List Value) (o : Nat) (p : PN) : Prop where
  c0 : l[o]? = some (.int .i64 p.id)
  c1 : l[o + 1]? = some (.int .u64 p.lo)
  c2 : l[o + 2]? = some (.int .u64 p.hi)
  c3 : l[o + 3]? = some (.int .i64 p.rows)
  c4 : l[o + 4]? = some (.int .i64 p.gen)
  c5 : l[o + 5]? = some (.int .i64 p.gone)
  c6 : l[o + 6]? = some (.int .u32 p.ds)
  c7 : l[o + 7]? = some (.int .u32 p.es)
theorem cellsP_get : ∀ (vs : List PN) (i : Nat) (hi : i < vs.length), PnIn (cellsP vs) (i * 8) vs[i]
  | v :: vs, 0, _ => by constructor <;> simp [cellsP_cons]
  | v :: vs, i + 1, hi => by
    have := cellsP_get vs i (by simp at hi; omega)
    obtain ⟨h0, h1, h2, h3, h4, h5, h6, h7⟩ := this
    rw [cellsP_cons, show (i + 1) * 8 = i * 8 + 1 + 1 + 1 + 1 + 1 + 1 + 1 + 1 from by omega]
    constructor <;> simpa
theorem cellsP_one (vs : List PN) : ∀ u ∈ cellsP vs, u.oneCell' = true := by
  intro u hu
  unfold cellsP at hu
  obtain ⟨p, _, hp⟩ := List.mem_flatMap.1 hu
  simp [cellP] at hp
  rcases hp with rfl | rfl | rfl | rfl | rfl | rfl | rfl | rfl <;> rfl
/-- The slice value v holds just the pairs vs, in a row of the call's own. -/
def ownP (w : World) (B : Nat) (v : Value) (vs : List PN) : Prop := w.ownsRow B 79 8 v vs.length (cellsP vs)
theorem ownP_nil (w : World) (B : Nat) : ownP w B (.slice none 0 0) [] := World.ownsRow_nil _ _ _ _
theorem ownP.shape {w : World} {B : Nat} {v : Value} {vs : List PN} (h : ownP w B v vs) : (v = .slice none 0 0 ∧ vs = []) ∨ ∃ g cap, v = .slice (some ⟨g, 0, none⟩) vs.length cap ∧ B ≤ g ∧ g < w.heap.size := by
  rcases h.2 with ⟨h', h''⟩ | ⟨g', cap', cur, h', hb, hg, hnc, hm, hs, ht⟩
  · exact .inl ⟨h', List.length_eq_zero_iff.1 h''⟩
  · exact .inr ⟨g', cap', h', hb, (Array.getElem?_eq_some_iff.1 hg).1⟩
theorem ownP.slice {w : World} {B : Nat} {v : Value} {vs : List PN} (h : ownP w B v vs) : ∃ ao cap, v = .slice ao vs.length cap ∧ (ao = none → vs = [] ∧ cap = 0) ∧ (∀ ad, ao = some ad → ∃ b, ad = ⟨b, 0, none⟩ ∧ B ≤ b ∧ b < w.heap.size) := by
  rcases h.shape with ⟨rfl, rfl⟩ | ⟨g, cap, rfl, h1, h2⟩
  · exact ⟨none, 0, rfl, fun _ => ⟨rfl, rfl⟩, fun ad h => by cases h⟩
  · refine ⟨_, _, rfl, (fun h => by cases h), fun ad h => ?_⟩
    cases h
    exact ⟨g, rfl, h1, h2⟩
theorem ownP.isSlice {w : World} {B : Nat} {v : Value} {vs : List PN} (h : ownP w B v vs) : ∃ a n c, v = .slice a n c := by
  obtain ⟨ao, cap, e, _⟩ := h.slice
  exact ⟨_, _, _, e⟩
theorem ownP.sees {w : World} {B : Nat} {ao : Option Addr} {n cap : Nat} {vs : List PN} (h : ownP w B (.slice ao n cap) vs) : SeesP w w.heap.size ao vs := by
  have hh := h
  intro i hi
  rcases h.2 with ⟨h', h''⟩ | ⟨g', cap', cur, h', hb, hg, hnc, hm, hs, ht⟩
  · omega
  · simp only [Value.slice.injEq] at h'
    obtain ⟨rfl, rfl, rfl⟩ := h'
    refine ⟨g', 0, rfl, (Array.getElem?_eq_some_iff.1 hg).1, ?_⟩
    unfold ownP at hh
    obtain ⟨c0, c1, c2, c3, c4, c5, c6, c7⟩ := cellsP_get vs i hi
    constructor
    · rw [show 0 + i * 8 = i * 8 from by omega, World.ownsRow.cellAt hh _ (by omega)]; exact c0
    · rw [show 0 + i * 8 + 1 = i * 8 + 1 from by omega, World.ownsRow.cellAt hh _ (by omega)]; exact c1
    · rw [show 0 + i * 8 + 2 = i * 8 + 2 from by omega, World.ownsRow.cellAt hh _ (by omega)]; exact c2
    · rw [show 0 + i * 8 + 3 = i * 8 + 3 from by omega, World.ownsRow.cellAt hh _ (by omega)]; exact c3
    · rw [show 0 + i * 8 + 4 = i * 8 + 4 from by omega, World.ownsRow.cellAt hh _ (by omega)]; exact c4
    · rw [show 0 + i * 8 + 5 = i * 8 + 5 from by omega, World.ownsRow.cellAt hh _ (by omega)]; exact c5
    · rw [show 0 + i * 8 + 6 = i * 8 + 6 from by omega, World.ownsRow.cellAt hh _ (by omega)]; exact c6
    · rw [show 0 + i * 8 + 7 = i * 8 + 7 from by omega, World.ownsRow.cellAt hh _ (by omega)]; exact c7
theorem ownP.same {w w' : World} {B : Nat} {v : Value} {xs : List PN} (h : ownP w B v xs) (hk : ∀ k, k < w.heap.size → B ≤ k → w'.heap[k]? = w.heap[k]?) : ownP w' B v xs := by
  rcases h with ⟨h1, h2 | ⟨g, cap, cur, rfl, hb, hg, hr⟩⟩
  · exact ⟨h1, .inl h2⟩
  · exact ⟨h1, .inr ⟨g, cap, cur, rfl, hb, by rw [hk g (Array.getElem?_eq_some_iff.1 hg).1 hb]; exact hg, hr⟩⟩
theorem ownP.alloc {w : World} {B : Nat} {v : Value} {xs : List PN} (h : ownP w B v xs) (o : Obj) : ownP (w.alloc o) B v xs := World.ownsRow.alloc h o
theorem ownP.mono {w : World} {B C : Nat} {v : Value} {xs : List PN} (h : ownP w B v xs) (hc : C ≤ B) : ownP w C v xs := by
  refine ⟨h.1, ?_⟩
  rcases h.2 with h1 | ⟨g, cap, cur, e, h1, h2⟩
  · exact .inl h1
  · exact .inr ⟨g, cap, cur, e, Nat.le_trans hc h1, h2⟩
theorem ownP.later {w w' : World} {B : Nat} {v : Value} {xs : List PN} (h : ownP w B v xs) (hb : Below w.heap.size w w') : ownP w' B v xs := h.same fun k hk _ => hb.block k hk
theorem ownP.own {w : World} {B : Nat} {v : Value} {vs : List PN} (h : ownP w B v vs) : ∀ k, v.ownBlock = some k → B ≤ k ∧ k < w.heap.size := fun k hk => World.ownsRow.lt h k hk
theorem app_pn {wr : World} {ops : Array Oper} {rest : List Oper} {o : Oper} {a : Act} {Q : Exit → Act → World → Prop} (hgd : o.guard = none) (s x : Operand)
    (ho : o.op = .call { callee := .builtin .append, args := #[s, x], argTypes := #[27, 27] })
    (B : Nat) (v : Value) (vs : List PN) (c : PN) (hown : ownP wr B v vs) (hs : a.eval s = v) (g : Nat) (hg : g = wr.heap.size) (hx : a.eval x = .slice (some ⟨g, 0, none⟩) 1 1)
    (hlen : (vs.length + 1) * 56 ≤ 140737488355328) (hB : B ≤ wr.heap.size)
    (h : ∀ v' w', ownP w' B v' (vs ++ [c]) → Below B wr w' → (∀ k, k < wr.heap.size → some k ≠ v.ownBlock → w'.heap[k]? = wr.heap[k]?) → wpList Tryz.prog ops Q rest (a.put o.dst v') w') :
    wpList Tryz.prog ops Q (o :: rest) a (wr.alloc (.cells #[.int .i64 c.id, .int .u64 c.lo, .int .u64 c.hi, .int .i64 c.rows, .int .i64 c.gen, .int .i64 c.gone, .int .u32 c.ds, .int .u32 c.es] 79)) := by
  subst hg
  obtain ⟨i0, hi, hz0, hz1, hz2⟩ := info_parts infoP
  refine wpList_append_own _ hgd s x 27 ho B 79 i0 _ 8 56 Tryz.underlying27 hi hz0 hz1 hz2 rfl (by decide) v vs.length _ hs (World.ownsRow.alloc hown _)
    ⟨wr.heap.size, 0, none⟩ 1 1 (cellP c) hx rfl ?_ ?_ (by unfold maxLen; omega) (by omega) (by simp; omega) ?_
  · intro j u hj
    match j, hj with
    | 0, hj => simp [cellP] at hj; subst hj; simp [Addr.add]
    | 1, hj => simp [cellP] at hj; subst hj; simp [Addr.add]
    | 2, hj => simp [cellP] at hj; subst hj; simp [Addr.add]
    | 3, hj => simp [cellP] at hj; subst hj; simp [Addr.add]
    | 4, hj => simp [cellP] at hj; subst hj; simp [Addr.add]
    | 5, hj => simp [cellP] at hj; subst hj; simp [Addr.add]
    | 6, hj => simp [cellP] at hj; subst hj; simp [Addr.add]
    | 7, hj => simp [cellP] at hj; subst hj; simp [Addr.add]
  · intro u hu; exact cellsP_one [c] u (by simpa [cellsP] using hu)
  · intro v' w' hown' hgrow _
    refine h v' w' ?_ ?_ (fun k hk hne => (hgrow.block k (by simp; omega) hne).trans (Below.heap_alloc _ _ k hk))
    · have : (vs ++ [c]).length = vs.length + 1 := by simp
      unfold ownP; rw [this, cellsP_app, show cellsP [c] = cellP c from by simp [cellsP]]; exact hown'
    · exact ((Below.refl _ _).alloc hB _).grown hgrow (by simp; omega) (fun k hk => (World.ownsRow.lt hown k hk).1)
/-- A manifest in a block of its own. -/
def Mn4 (W : World) (g : Nat) (a b c d : Value) : Prop := W.heap[g]? = some (.cells #[a, b, c, d] 29 (0, 0))
theorem Mn4.cell {W : World} {g : Nat} {a b c d : Value} (h : Mn4 W g a b c d) (j : Nat) : W.cell? ⟨g, j, none⟩ = (#[a, b, c, d] : Array Value)[j]? := cells_at h j
theorem Mn4.free {W : World} {g : Nat} {a b c d : Value} (h : Mn4 W g a b c d) (j : Nat) : W.frozen? ⟨g, j, none⟩ = false := by
  unfold Mn4 at h
  simp [World.frozen?, h]
theorem Mn4.lt {W : World} {g : Nat} {a b c d : Value} (h : Mn4 W g a b c d) : g < W.heap.size := (Array.getElem?_eq_some_iff.1 h).1
theorem Mn4.fr {W W' : World} {g R : Nat} {a b c d : Value} (h : Mn4 W g a b c d) (hf : Fr R W W') (hn : g ≠ R) : Mn4 W' g a b c d := (hf.rest g h.lt hn).trans h
theorem Mn4.later {W W' : World} {B g : Nat} {a b c d : Value} (h : Mn4 W g a b c d) (hb : Below B W W') (hB : g < B) : Mn4 W' g a b c d := (hb.block g hB).trans h
theorem Mn4.other {W : World} {g : Nat} {a b c d : Value} (h : Mn4 W g a b c d) {p : Addr} (v : Value) (hp : g ≠ p.block) : Mn4 (W.setCell p v) g a b c d := (Below.heap_setCell W p v g hp).trans h
theorem Mn4.set3 {W : World} {g : Nat} {a b c d : Value} (h : Mn4 W g a b c d) (v : Value) : Mn4 (W.setCell ⟨g, 3, none⟩ v) g a b c v := by
  unfold Mn4 at h ⊢
  simp [World.setCell, Array.getElem?_modify, h]
theorem Mn4.setAll {W : World} {g : Nat} {a b c d : Value} (h : Mn4 W g a b c d) (a' b' c' d' : Value) : Mn4 ((((W.setCell ⟨g, 0, none⟩ a').setCell ⟨g, 1, none⟩ b').setCell ⟨g, 2, none⟩ c').setCell ⟨g, 3, none⟩ d') g a' b' c' d' := by
  unfold Mn4 at h ⊢
  simp [World.setCell, Array.getElem?_modify, h]
theorem infoMn : (Tryz.prog.info? 29).map (·.size) = some 4 := by kernel_rfl
theorem ret_mn {fn : Func} {p : Tmp} (h : fn.results = #[.cell p 29]) (tmps : Array Value) (w : World) (a b c d : Value) (g : Nat) (hp : tmps.getD p undef = .pointer (some ⟨g, 0, none⟩)) (hg : Mn4 w g a b c d) :
    (results fn tmps).run Tryz.prog w = .ok (.agg #[a, b, c, d]) w := by
  have hp' : tmps[p]?.getD undef = .pointer (some ⟨g, 0, none⟩) := by simpa using hp
  unfold Mn4 at hg
  simp [results, h, hp', asAddr, run_loadVar_row w g 29 29 _ (0, 0) _ hg Tryz.underlying29 rfl infoMn]
/-- What is read of the pairs, when some of them are read. -/
def restP (s : ByteArray) (upto : Int) (done : List PN) (m p : Nat) (last : Int) : Option (List PN × Nat) := (rdPs s upto m p last).map fun y => (done ++ y.1, y.2)
theorem restP_zero (s : ByteArray) (upto : Int) (done : List PN) (p : Nat) (last : Int) : restP s upto done 0 p last = some (done, p) := by simp [restP, rdPs]
theorem restP_no {s : ByteArray} {upto : Int} {done : List PN} {m p : Nat} {last : Int} (h : rdPN s p last upto = none) : restP s upto done (m + 1) p last = none := by simp [restP, rdPs, h]
theorem restP_yes {s : ByteArray} {upto : Int} {done : List PN} {m p q : Nat} {last : Int} {v : PN} (h : rdPN s p last upto = some (v, q)) : restP s upto done (m + 1) p last = restP s upto (done ++ [v]) m q v.hi := by
  unfold restP
  conv => lhs; unfold rdPs
  rw [h]
  simp only [Option.bind_some]
  cases rdPs s upto m q v.hi with
  | none => rfl
  | some x => simp
end Go.Proofs.YtbfjnidpjmhfiaaGreatDoor

namespace Go.Proofs.YtbfjnidpjmhfiaaGreatDoor
set_option linter.unusedSimpArgs false
open Go.ChangeShapes Go.WideShapes Go.ChangeAt Go.RowKit
set_option linter.unusedVariables false
set_option maxRecDepth 100000
def mgB : ByteArray := ⟨#[83, 84, 82, 65, 77, 65, 78, 49]⟩
/-- How DecodeManifest ends when it does not read a manifest. -/
def MoNo (b : ByteArray) (c : Int) : Prop := (opE b mgB ≠ 0 ∧ c = opE b mgB) ∨ (opE b mgB = 0 ∧ c = 125 ∧ ∀ gen next upto ps, rdM (b.extract 0 (b.size - 4)) = some ((gen, next, upto), ps) → ¬ mayM gen next upto ps)
/-- The manifest that a file is read as. -/
def MoYes (b : ByteArray) (gen next upto : Int) (ps : List PN) : Prop := opE b mgB = 0 ∧ rdM (b.extract 0 (b.size - 4)) = some ((gen, next, upto), ps) ∧ mayM gen next upto ps ∧ (∀ p ∈ ps, p.wf) ∧ 0 ≤ upto
/-- A manifest is read, its pairs new; or the reading gives up. -/
def MoC (w : World) (b : ByteArray) (e : Ending) (w' : World) : Prop :=
  Below w.heap.size w w' ∧ ((∃ gen next upto ps v, MoYes b gen next upto ps ∧ e = .returned (.agg #[.int .i64 gen, .int .i64 next, .int .u64 upto, v]) ∧ ownP w' w.heap.size v ps) ∨ ∃ c, MoNo b c ∧ e = oops c)
theorem MoC.no {w w' : World} {b : ByteArray} {c : Int} (hb : Below w.heap.size w w') (h : MoNo b c) : MoC w b (oops c) w' := ⟨hb, .inr ⟨c, h, rfl⟩⟩
theorem MoNo.none {b : ByteArray} (h : opE b mgB = 0) (hn : rdM (b.extract 0 (b.size - 4)) = none) : MoNo b 125 := .inr ⟨h, rfl, fun _ _ _ _ h2 => by rw [hn] at h2; cases h2⟩
theorem rdM_n1 {s : ByteArray} (h : rdU s 8 99999999 = none) : rdM s = none := by rw [rdM, h]; rfl
theorem rdM_n2 {s : ByteArray} {x1 : Int} {p1 : Nat} (h1 : rdU s 8 99999999 = some (x1, p1)) (h : rdU s p1 100000000 = none) : rdM s = none := by rw [rdM, h1]; simp only [Option.bind_some]; rw [h]; rfl
theorem rdM_n3 {s : ByteArray} {x1 x2 : Int} {p1 p2 : Nat} (h1 : rdU s 8 99999999 = some (x1, p1)) (h2 : rdU s p1 100000000 = some (x2, p2)) (h : rdU s p2 4611686018427387903 = none) : rdM s = none := by rw [rdM, h1]; simp only [Option.bind_some]; rw [h2]; simp only [Option.bind_some]; rw [h]; rfl
theorem rdM_n4 {s : ByteArray} {x1 x2 x3 : Int} {p1 p2 p3 : Nat} (h1 : rdU s 8 99999999 = some (x1, p1)) (h2 : rdU s p1 100000000 = some (x2, p2)) (h3 : rdU s p2 4611686018427387903 = some (x3, p3)) (h : rdU s p3 256 = none) : rdM s = none := by rw [rdM, h1]; simp only [Option.bind_some]; rw [h2]; simp only [Option.bind_some]; rw [h3]; simp only [Option.bind_some]; rw [h]; rfl
theorem rdM_5 {s : ByteArray} {x1 x2 x3 : Int} {n p1 p2 p3 p4 : Nat} (h1 : rdU s 8 99999999 = some (x1, p1)) (h2 : rdU s p1 100000000 = some (x2, p2)) (h3 : rdU s p2 4611686018427387903 = some (x3, p3)) (h4 : rdU s p3 256 = some ((n : Int), p4)) : rdM s = (restP s x3 [] n p4 0).bind fun y => if y.2 = s.size then some ((x1, x2, x3), y.1) else none := by
  rw [rdM, h1]; simp only [Option.bind_some]; rw [h2]; simp only [Option.bind_some]; rw [h3]; simp only [Option.bind_some]; rw [h4]; simp only [Option.bind_some, Int.toNat_natCast]
  unfold restP
  simp
/-- What stands while a manifest is read. -/
structure MaS (w : World) (R g B : Nat) (s : ByteArray) (gen next upto : Int) (W : World) (p : Nat) (v : Value) (ps : List PN) : Prop where
  bel : Below w.heap.size w W
  z : Mn4 W w.heap.size (.int .i64 0) (.int .i64 0) (.int .u64 0) (.slice none 0 0)
  rd : RdI W R s p
  hg : Mn4 W g (.int .i64 gen) (.int .i64 next) (.int .u64 upto) v
  own : ownP W B v ps
  r1 : w.heap.size < R
  r2 : w.heap.size < g
  n1 : R ≠ g
  b1 : R < B
  b2 : g < B
  b3 : B ≤ W.heap.size
theorem MaS.read {w : World} {R g B : Nat} {s : ByteArray} {gen next upto : Int} {W W' : World} {p q : Nat} {v : Value} {ps : List PN} (h : MaS w R g B s gen next upto W p v ps) (hf : Fr R W W') (hr : RdI W' R s q) : MaS w R g B s gen next upto W' q v ps :=
  ⟨h.bel.trans (hf.toBelow.mono (Nat.le_of_lt h.r1)), h.z.fr hf (by have := h.r1; omega), hr, h.hg.fr hf (Ne.symm h.n1), h.own.same (fun k hk hB => hf.rest k hk (by have := h.b1; omega)), h.r1, h.r2, h.n1, h.b1, h.b2, Nat.le_trans h.b3 hf.toBelow.size⟩
theorem MaS.app {w : World} {R g B : Nat} {s : ByteArray} {gen next upto : Int} {W W' : World} {p : Nat} {v v' : Value} {ps ps' : List PN} (h : MaS w R g B s gen next upto W p v ps) (ho : ownP W' B v' ps') (hb : Below B W W') : MaS w R g B s gen next upto (W'.setCell ⟨g, 3, none⟩ v') p v' ps' := by
  have := h.r1
  have := h.r2
  have := h.b1
  have := h.b2
  refine ⟨(h.bel.trans (hb.mono (by omega))).setCell (p := ⟨g, 3, none⟩) (by simp only; omega) _, (h.z.later hb (by omega)).other (p := ⟨g, 3, none⟩) _ (by simp only; omega), RdI.other (p := ⟨g, 3, none⟩) ((hb.block R h.b1).trans h.rd) _ h.n1, (h.hg.later hb h.b2).set3 v', ho.same (fun k hk hB => Below.heap_setCell _ _ _ k (by simp only; omega)), h.r1, h.r2, h.n1, h.b1, h.b2, ?_⟩
  have := hb.size
  have := h.b3
  simp
  omega
theorem MaS.drew {w : World} {R g B : Nat} {s : ByteArray} {gen next upto : Int} {W : World} {p : Nat} {v : Value} {ps : List PN} (h : MaS w R g B s gen next upto W p v ps) : MaS w R g B s gen next upto W.drew p v ps :=
  ⟨h.bel.drew, h.z, h.rd, h.hg, h.own.same (fun _ _ _ => rfl), h.r1, h.r2, h.n1, h.b1, h.b2, h.b3⟩
theorem MaS.drewN {w : World} {R g B : Nat} {s : ByteArray} {gen next upto : Int} {W : World} {p : Nat} {v : Value} {ps : List PN} (h : MaS w R g B s gen next upto W p v ps) (n : Nat) : MaS w R g B s gen next upto (W.drewN n) p v ps := by
  induction n with
  | zero => exact h
  | succ n ih => exact ih.drew
theorem PnI.yes {R : Nat} {s : ByteArray} {w w' : World} {v : PN} {q : Nat} {e : Ending} (h : PnI R s w (some (v, q)) e w') : Fr R w w' ∧ e = .returned (pnV v) ∧ RdI w' R s q := by
  obtain ⟨hf, ⟨x', q', hxx, he, hr⟩ | ⟨hxx, _⟩⟩ := h
  · injection hxx with hxx
    injection hxx with ha hb
    subst ha hb
    exact ⟨hf, he, hr⟩
  · cases hxx
theorem PnI.no {R : Nat} {s : ByteArray} {w w' : World} {e : Ending} (h : PnI R s w none e w') : Fr R w w' ∧ e = oops 125 := by
  obtain ⟨hf, ⟨x', q', hxx, he, hr⟩ | ⟨_, he⟩⟩ := h
  · cases hxx
  · exact ⟨hf, he⟩
theorem rdPN_wf {s : ByteArray} {p q : Nat} {last upto : Int} {v : PN} (h0 : 0 ≤ last) (hu : upto ≤ 4611686018427387903) (h : rdPN s p last upto = some (v, q)) : v.wf ∧ q ≤ s.size ∧ 0 ≤ v.hi ∧ v.hi ≤ upto := by
  obtain ⟨_, _, hq, h1, h2, h3, h4, h5, h6, h7, h8, h9, h10, h11, h12, h13, h14, h15⟩ := rdPN_form h0 h
  exact ⟨⟨by omega, by omega, by omega, by omega, by omega, by omega, by omega, by omega, by omega, by omega, by omega, by omega, by omega, by omega, by omega, by omega⟩, hq, by omega, h3⟩
set_option maxHeartbeats 25600000 in
theorem manifestOf_any (w : World) (b : ByteArray) (hs : b.size ≤ 1125899906842624) (hT : HalfAt w) : Calls Tryz.prog 46 #[.string b] w (MoC w b) := by
  have hb0 : Below w.heap.size w (w.alloc (.cells #[.int .i64 0, .int .i64 0, .int .u64 0, .slice none 0 0] 29)) := (Below.refl _ _).alloc (Nat.le_refl _) _
  have HB0 : Hid _ := hb0
  have HZ0 : Hid (Mn4 (w.alloc (.cells #[.int .i64 0, .int .i64 0, .int .u64 0, .slice none 0 0] 29)) w.heap.size (.int .i64 0) (.int .i64 0) (.int .u64 0) (.slice none 0 0)) := heap_alloc_new w _
  have HO : Hid (∀ _ : Unit, _) := fun _ => open_any b mgB (w.alloc (.cells #[.int .i64 0, .int .i64 0, .int .u64 0, .slice none 0 0] 29)) rfl hs (hT.later hb0)
  have hsz : (b.extract 0 (b.size - 4)).size ≤ 1125899906842624 := by rw [ByteArray.size_extract]; omega
  have h12 : opE b mgB = 0 → 8 ≤ (b.extract 0 (b.size - 4)).size := fun h => by
    rw [ByteArray.size_extract]
    unfold opE at h
    split at h
    · cases h
    · omega
  have HSZ : Hid _ := h12
  clear hT hb0 h12
  go_enter Tryz.func46, Tryz.ntmps46
  go_wp2_with fail
  generalize hw0 : w.alloc (.cells #[.int .i64 0, .int .i64 0, .int .u64 0, .slice none 0 0] 29) = y0 at *
  clear hw0
  refine (HO.out ()).mono ?_
  rintro e w1 ⟨hb1, hor⟩
  rcases hor.symm with ⟨hne, rfl⟩ | ⟨h0, R, rfl, hR, hrd⟩
  · exact ⟨rfl, MoC.no (HB0.out.trans (hb1.mono HB0.out.size)) (.inl ⟨hne, rfl⟩)⟩
  clear hor
  have HOP : Hid (opE b mgB = 0) := h0
  have h8 := HSZ.out h0
  have HZ1 : Hid (Mn4 w1 w.heap.size (.int .i64 0) (.int .i64 0) (.int .u64 0) (.slice none 0 0)) := HZ0.out.later hb1 HZ0.out.lt
  have HB1 : Hid (Below w.heap.size w w1) := HB0.out.trans (hb1.mono HB0.out.size)
  have hzr : w.heap.size < R := Nat.lt_of_lt_of_le HZ0.out.lt hR
  have HR1 : Hid (RdI w1 R (b.extract 0 (b.size - 4)) 8) := hrd
  have HN : Hid (rdM (b.extract 0 (b.size - 4)) = none → MoNo b 125) := fun h => MoNo.none HOP.out h
  have HLAST : Hid (∀ c, MoNo b c ↔ _) := fun c => Iff.rfl
  clear h0 hb1 hrd HO HB0 HZ0 HSZ hR HLAST
  generalize hss : b.extract 0 (b.size - 4) = s at *
  have HSS : Hid _ := hss
  clear hss
  have hp0 := h8
  have HC1 : Hid (∀ _ : Unit, _) := fun _ => countI R s 8 99999999 w1 HR1.out hp0 hsz (by omega) (by omega)
  cases hx1 : rdU s 8 99999999 with
  | none =>
    rw [hx1] at HC1
    go_wp2_with fail
    refine (HC1.out ()).mono ?_
    intro e w2 ht
    obtain ⟨hf, rfl⟩ := ht.no
    exact ⟨rfl, MoC.no (HB1.out.trans (hf.toBelow.mono (Nat.le_of_lt hzr))) (HN.out (rdM_n1  hx1))⟩
  | some yy =>
    obtain ⟨x1, p1⟩ := yy
    rw [hx1] at HC1
    have HX1 : Hid _ := hx1
    obtain ⟨ff, qq, lb1, ub1⟩ := rdU_form hx1
    have hp1 := ff.size hp0
    rw [← qq] at hp1
    clear ff qq hx1 hp0
    go_wp2_with fail
    refine (HC1.out ()).mono ?_
    intro e w2 ht
    obtain ⟨hf, rfl, hr⟩ := ht.yes
    have HB2 : Hid (Below w.heap.size w w2) := HB1.out.trans (hf.toBelow.mono (Nat.le_of_lt hzr))
    have HZ2 : Hid (Mn4 w2 w.heap.size (.int .i64 0) (.int .i64 0) (.int .u64 0) (.slice none 0 0)) := HZ1.out.fr hf (by omega)
    have HR2 : Hid (RdI w2 R s p1) := hr
    clear hf hr ht HC1 HB1 HZ1 HR1
    have HC2 : Hid (∀ _ : Unit, _) := fun _ => countI R s p1 100000000 w2 HR2.out hp1 hsz (by omega) (by omega)
    cases hx2 : rdU s p1 100000000 with
    | none =>
      rw [hx2] at HC2
      go_wp2_with fail
      refine (HC2.out ()).mono ?_
      intro e w2 ht
      obtain ⟨hf, rfl⟩ := ht.no
      exact ⟨rfl, MoC.no (HB2.out.trans (hf.toBelow.mono (Nat.le_of_lt hzr))) (HN.out (rdM_n2 HX1.out hx2))⟩
    | some yy =>
      obtain ⟨x2, p2⟩ := yy
      rw [hx2] at HC2
      have HX2 : Hid _ := hx2
      obtain ⟨ff, qq, lb2, ub2⟩ := rdU_form hx2
      have hp2 := ff.size hp1
      rw [← qq] at hp2
      clear ff qq hx2 hp1
      go_wp2_with fail
      refine (HC2.out ()).mono ?_
      intro e w3 ht
      obtain ⟨hf, rfl, hr⟩ := ht.yes
      have HB3 : Hid (Below w.heap.size w w3) := HB2.out.trans (hf.toBelow.mono (Nat.le_of_lt hzr))
      have HZ3 : Hid (Mn4 w3 w.heap.size (.int .i64 0) (.int .i64 0) (.int .u64 0) (.slice none 0 0)) := HZ2.out.fr hf (by omega)
      have HR3 : Hid (RdI w3 R s p2) := hr
      clear hf hr ht HC2 HB2 HZ2 HR2
      have HC3 : Hid (∀ _ : Unit, _) := fun _ => numberI R s p2 4611686018427387903 w3 HR3.out hp2 hsz
      cases hx3 : rdU s p2 4611686018427387903 with
      | none =>
        rw [hx3] at HC3
        go_wp2_with fail
        refine (HC3.out ()).mono ?_
        intro e w2 ht
        obtain ⟨hf, rfl⟩ := ht.no
        exact ⟨rfl, MoC.no (HB3.out.trans (hf.toBelow.mono (Nat.le_of_lt hzr))) (HN.out (rdM_n3 HX1.out HX2.out hx3))⟩
      | some yy =>
        obtain ⟨x3, p3⟩ := yy
        rw [hx3] at HC3
        have HX3 : Hid _ := hx3
        obtain ⟨ff, qq, lb3, ub3⟩ := rdU_form hx3
        have hp3 := ff.size hp2
        rw [← qq] at hp3
        clear ff qq hx3 hp2
        go_wp2_with fail
        refine (HC3.out ()).mono ?_
        intro e w4 ht
        obtain ⟨hf, rfl, hr⟩ := ht.yes
        have HB4 : Hid (Below w.heap.size w w4) := HB3.out.trans (hf.toBelow.mono (Nat.le_of_lt hzr))
        have HZ4 : Hid (Mn4 w4 w.heap.size (.int .i64 0) (.int .i64 0) (.int .u64 0) (.slice none 0 0)) := HZ3.out.fr hf (by omega)
        have HR4 : Hid (RdI w4 R s p3) := hr
        clear hf hr ht HC3 HB3 HZ3 HR3
        have hba : Below w4.heap.size w4 (w4.alloc (.cells #[.int .i64 x1, .int .i64 x2, .int .u64 x3, .slice none 0 0] 29)) := (Below.refl _ _).alloc (Nat.le_refl _) _
        have hR4 := HR4.out.lt
        have HS4 : Hid (MaS w R w4.heap.size (w4.heap.size + 1) s x1 x2 x3 (w4.alloc (.cells #[.int .i64 x1, .int .i64 x2, .int .u64 x3, .slice none 0 0] 29)) p3 (.slice none 0 0) []) := ⟨HB4.out.trans (hba.mono HB4.out.size), HZ4.out.later hba HZ4.out.lt, HR4.out.later hba, heap_alloc_new w4 _, ownP_nil _ _, hzr, by omega, by omega, by omega, by omega, by simp⟩
        clear hba HB4 HZ4 HR4
        go_wp2_with fail
        generalize hya : w4.alloc (.cells #[.int .i64 x1, .int .i64 x2, .int .u64 x3, .slice none 0 0] 29) = y4 at *
        generalize hgg : w4.heap.size = g at *
        clear hya hgg hR4
        have HC4 : Hid (∀ _ : Unit, _) := fun _ => countI R s p3 256 y4 HS4.out.rd hp3 hsz (by omega) (by omega)
        cases hx4 : rdU s p3 256 with
        | none =>
          rw [hx4] at HC4
          refine (HC4.out ()).mono ?_
          intro e w5 ht
          obtain ⟨hf, rfl⟩ := ht.no
          exact ⟨rfl, MoC.no (HS4.out.bel.trans (hf.toBelow.mono (Nat.le_of_lt hzr))) (HN.out (rdM_n4 HX1.out HX2.out HX3.out hx4))⟩
        | some yy =>
          obtain ⟨x4, p4⟩ := yy
          rw [hx4] at HC4
          obtain ⟨ff, qq, lb4, ub4⟩ := rdU_form hx4
          have hp4 := ff.size hp3
          rw [← qq] at hp4
          clear ff qq hp3
          obtain ⟨n, rfl⟩ := Int.eq_ofNat_of_zero_le lb4
          have HM5 : Hid (rdM s = (restP s x3 [] n p4 0).bind fun y => if y.2 = s.size then some ((x1, x2, x3), y.1) else none) := rdM_5 HX1.out HX2.out HX3.out hx4
          clear hx4 HX1 HX2 HX3
          refine (HC4.out ()).mono ?_
          intro e w5 ht
          obtain ⟨hf, rfl, hr⟩ := ht.yes
          have HS5 : Hid (MaS w R g (g + 1) s x1 x2 x3 w5 p4 (.slice none 0 0) []) := HS4.out.read hf hr
          clear hf hr ht HC4 HS4
          go_wp2_with fail
          go_loopw [5, 18] (fun h i wr => ∃ (k p : Nat) (last : Int) (v : Value) (ps : List PN), k ≤ n ∧ i = .int .i64 k ∧ h = .int .u64 last ∧ 0 ≤ last ∧ last ≤ x3 ∧ p ≤ s.size ∧ ps.length = k ∧ (∀ q ∈ ps, q.wf) ∧ MaS w R g (g + 1) s x1 x2 x3 wr p v ps ∧ restP s x3 [] n p4 0 = restP s x3 ps (n - k) p last) (fun _ i _ => n - (intOf i).toNat)
          case atStart => exact ⟨0, p4, 0, .slice none 0 0, [], by omega, rfl, rfl, by omega, lb3, hp4, rfl, (fun _ h => by cases h), HS5.out, rfl⟩
          case round =>
            obtain ⟨k, p, last, v, ps, hk, rfl, rfl, hl0, hl1, hps, hlen, hwf, hS, hrest⟩ := hrel
            have HSk : Hid (MaS w R g (g + 1) s x1 x2 x3 wr p v ps) := hS
            have HWF : Hid (∀ q ∈ ps, q.wf) := hwf
            have HRs : Hid (restP s x3 [] n p4 0 = restP s x3 ps (n - k) p last) := hrest
            have HLN : Hid (ps.length = k) := hlen
            clear hS hwf hrest hlen HS5
            by_cases hlt : k < n
            · have c2 : wr.cell? ⟨g, 2, none⟩ = some (.int .u64 x3) := HSk.out.hg.cell 2
              have HP : Hid (∀ _ : Unit, _) := fun _ => pairNameI R s p last x3 wr HSk.out.rd hps hsz hl0 hl1 ub3
              cases hv : rdPN s p last x3 with
              | none =>
                rw [hv] at HP
                have HNo : Hid (rdM s = none) := by
                  show _ = _
                  rw [HM5.out, HRs.out, show n - k = n - (k + 1) + 1 from by omega, restP_no hv]
                  rfl
                go_wp2_with fail
                refine (HP.out ()).mono ?_
                intro e w6 ht
                obtain ⟨hf, rfl⟩ := ht.no
                exact ⟨rfl, MoC.no (HSk.out.bel.trans (hf.toBelow.mono (Nat.le_of_lt hzr))) (HN.out HNo.out)⟩
              | some yy =>
                obtain ⟨x, q⟩ := yy
                rw [hv] at HP
                obtain ⟨hxw, hq, hxh0, hxh1⟩ := rdPN_wf hl0 ub3 hv
                have HXW : Hid _ := hxw
                have HRs2 : Hid (restP s x3 [] n p4 0 = restP s x3 (ps ++ [x]) (n - (k + 1)) q x.hi) := by
                  show _ = _
                  rw [HRs.out, show n - k = n - (k + 1) + 1 from by omega, restP_yes hv]
                clear hxw hv
                go_wp2_with fail
                refine (HP.out ()).mono ?_
                intro e w6 ht
                obtain ⟨hf, he, hr⟩ := ht.yes
                unfold pnV at he
                subst he
                have HS6 : Hid (MaS w R g (g + 1) s x1 x2 x3 w6 q v ps) := HSk.out.read hf hr
                clear hf hr ht HP HSk HRs c2
                have c3 : w6.cell? ⟨g, 3, none⟩ = some v := HS6.out.hg.cell 3
                have f3 := HS6.out.hg.free 3
                have hgw : g < w6.heap.size := HS6.out.hg.lt
                obtain ⟨ao, cap, rfl, hnone, hsome⟩ := HS6.out.own.slice
                have HO7 : Hid (ownP (w6.alloc (.cells #[.int .i64 x.id, .int .u64 x.lo, .int .u64 x.hi, .int .i64 x.rows, .int .i64 x.gen, .int .i64 x.gone, .int .u32 x.ds, .int .u32 x.es] 79)) (g + 1) (.slice ao ps.length cap) ps) := HS6.out.own.alloc _
                have HLen : Hid ((ps.length + 1) * 56 ≤ 140737488355328) := by have := HLN.out; show _ ≤ _; omega
                have HOB : Hid (∀ k, (Value.slice ao ps.length cap).ownBlock = some k → g + 1 ≤ k ∧ k < w6.heap.size) := HS6.out.own.own
                clear hnone hsome
                go_wp2_with (at_builtin; refine hideG ?_)
                change wpList _ _ _ _ _ _
                refine app_pn (by rfl) _ _ (by rfl) (g + 1) _ ps x HO7.out (by rfl) (w6.heap.size + 1) (by simp) (by rfl) HLen.out (by simp; omega) ?_
                intro v' w' ho' hb' hk'
                obtain ⟨a', n', c', rfl⟩ := ho'.isSlice
                have hb7 : Below (g + 1) w6 w' := ((Below.refl _ _).alloc (by omega) _).trans hb'
                have HS7 : Hid _ := HS6.out.app ho' hb7
                have k3 : w'.cell? ⟨g, 3, none⟩ = some (.slice ao ps.length cap) := (HS6.out.hg.later hb7 (by omega)).cell 3
                have k4 := (HS6.out.hg.later hb7 (by omega)).free 3
                have k5 : w'.cell? ⟨w6.heap.size, 2, none⟩ = some (.int .u64 x.hi) := cells_at ((hk' w6.heap.size (by simp) (fun e => by have := (HOB.out _ e.symm).2; omega)).trans (heap_alloc_new w6 _)) 2
                have hne9 : w6.heap.size ≠ g := by omega
                clear ho' hb' hk' hb7
                go_wp2
                go_roundw
                case rel => exact ⟨k + 1, q, x.hi, _, ps ++ [x], by omega, by go_num, rfl, hxh0, hxh1, hq, by rw [List.length_append, HLN.out]; rfl, fun y hy => by rcases List.mem_append.1 hy with h | h; exact HWF.out _ h; rw [List.mem_singleton.1 h]; exact HXW.out, HS7.out, HRs2.out⟩
                case measure => simp [intOf]; omega
            · have hkn : k = n := by omega
              have HMM : Hid (rdM s = if p = s.size then some ((x1, x2, x3), ps) else none) := by
                show _ = _
                rw [HM5.out, HRs.out, hkn, Nat.sub_self, restP_zero]
                rfl
              clear HRs HM5
              have HL : Hid (∀ _ : Unit, _) := fun _ => leftI R s p wr HSk.out.rd hsz
              by_cases hp : p < s.size
              · rw [decide_eq_true hp] at HL
                have HNo : Hid (rdM s = none) := HMM.out.trans (if_neg (by omega))
                go_wp2_with fail
                refine (HL.out ()).mono ?_
                rintro e w6 ⟨rfl, nq, rfl⟩
                go_wp2_with fail
                refine (giveUpI_yes 125 _).mono ?_
                rintro e w7 ⟨rfl, rfl⟩
                exact ⟨rfl, MoC.no (HSk.out.drewN nq).bel (HN.out HNo.out)⟩
              · rw [decide_eq_false hp] at HL
                have HYe : Hid (rdM s = some ((x1, x2, x3), ps)) := HMM.out.trans (if_pos (by omega))
                go_wp2_with fail
                refine (HL.out ()).mono ?_
                rintro e w6 ⟨rfl, nq, rfl⟩
                have hS6 := HSk.out.drewN nq
                generalize wr.drewN nq = w6 at *
                have HS6 : Hid (MaS w R g (g + 1) s x1 x2 x3 w6 p v ps) := hS6
                clear hS6 HSk HL HMM
                obtain ⟨ao, cap, rfl, -, -⟩ := HS6.out.own.slice
                have c0 : w6.cell? ⟨g, 0, none⟩ = some (.int .i64 x1) := HS6.out.hg.cell 0
                have c1 : w6.cell? ⟨g, 1, none⟩ = some (.int .i64 x2) := HS6.out.hg.cell 1
                have c2 : w6.cell? ⟨g, 2, none⟩ = some (.int .u64 x3) := HS6.out.hg.cell 2
                have c3 : w6.cell? ⟨g, 3, none⟩ = some (.slice ao ps.length cap) := HS6.out.hg.cell 3
                have HMb : Hid (∀ _ : Unit, _) := fun _ => mayBe_any w6 x1 x2 x3 ao cap ps HS6.out.own.sees HWF.out
                go_wp2_with fail
                refine (HMb.out ()).mono ?_
                rintro e w7 ⟨c, rfl, hiff, hb7⟩
                have HIF : Hid (c = true ↔ mayM x1 x2 x3 ps) := hiff
                have HB7 : Hid (Below w6.heap.size w6 w7) := hb7
                clear hiff hb7 HMb c0 c1 c2 c3
                cases c
                · have HNm : Hid (¬ mayM x1 x2 x3 ps) := fun h => by have := HIF.out.2 h; cases this
                  go_wp2_with fail
                  refine (giveUpI_yes 125 _).mono ?_
                  rintro e w8 ⟨rfl, rfl⟩
                  refine ⟨rfl, MoC.no (HS6.out.bel.trans (HB7.out.mono HS6.out.bel.size)) (.inr ⟨HOP.out, rfl, fun a1 a2 a3 a4 h => ?_⟩)⟩
                  rw [HSS.out, HYe.out] at h
                  injection h with h
                  injection h with ha hd
                  injection ha with ha hb
                  injection hb with hb hc
                  subst ha hb hc hd
                  exact HNm.out
                · have HYm : Hid (mayM x1 x2 x3 ps) := HIF.out.1 rfl
                  go_wp2_with fail
                  refine (giveUpI_no 125 _).mono ?_
                  rintro e w8 ⟨rfl, rfl⟩
                  have HG8 : Hid (Mn4 w8 g (.int .i64 x1) (.int .i64 x2) (.int .u64 x3) (.slice ao ps.length cap)) := HS6.out.hg.later HB7.out HS6.out.hg.lt
                  have HZ8 : Hid (Mn4 w8 w.heap.size (.int .i64 0) (.int .i64 0) (.int .u64 0) (.slice none 0 0)) := HS6.out.z.later HB7.out HS6.out.z.lt
                  have HO8 : Hid (ownP w8 (g + 1) (.slice ao ps.length cap) ps) := HS6.out.own.later HB7.out
                  have HB8 : Hid (Below w.heap.size w w8) := HS6.out.bel.trans (HB7.out.mono HS6.out.bel.size)
                  have hzg := HS6.out.r2
                  have Hzg : Hid (w.heap.size < g) := hzg
                  have hzn : w.heap.size ≠ g := by omega
                  have c0 : w8.cell? ⟨g, 0, none⟩ = some (.int .i64 x1) := HG8.out.cell 0
                  have c1 : w8.cell? ⟨g, 1, none⟩ = some (.int .i64 x2) := HG8.out.cell 1
                  have c2 : w8.cell? ⟨g, 2, none⟩ = some (.int .u64 x3) := HG8.out.cell 2
                  have c3 : w8.cell? ⟨g, 3, none⟩ = some (.slice ao ps.length cap) := HG8.out.cell 3
                  have z0 : w8.cell? ⟨w.heap.size, 0, none⟩ = some (.int .i64 0) := HZ8.out.cell 0
                  have z1 : w8.cell? ⟨w.heap.size, 1, none⟩ = some (.int .i64 0) := HZ8.out.cell 1
                  have z2 : w8.cell? ⟨w.heap.size, 2, none⟩ = some (.int .u64 0) := HZ8.out.cell 2
                  have z3 : w8.cell? ⟨w.heap.size, 3, none⟩ = some (.slice none 0 0) := HZ8.out.cell 3
                  have o0 := HZ8.out.free 0
                  have o1 := HZ8.out.free 1
                  have o2 := HZ8.out.free 2
                  have o3 := HZ8.out.free 3
                  go_wp2
                  refine bodyPost_ret (ret_mn rfl _ _ _ _ _ _ w.heap.size (by rfl) (HZ8.out.setAll _ _ _ _)) rfl ⟨?_, .inl ⟨x1, x2, x3, ps, _, ⟨HOP.out, by rw [HSS.out]; exact HYe.out, HYm.out, HWF.out, lb3⟩, rfl, ?_⟩⟩
                  · exact (((HB8.out.setCell (p := ⟨w.heap.size, 0, none⟩) (Nat.le_refl _) _).setCell (p := ⟨w.heap.size, 1, none⟩) (Nat.le_refl _) _).setCell (p := ⟨w.heap.size, 2, none⟩) (Nat.le_refl _) _).setCell (p := ⟨w.heap.size, 3, none⟩) (Nat.le_refl _) _
                  · refine (HO8.out.same fun k hk hB => ?_).mono (by omega)
                    have hne : k ≠ w.heap.size := by omega
                    exact (Below.heap_setCell _ _ _ k hne).trans ((Below.heap_setCell _ _ _ k hne).trans ((Below.heap_setCell _ _ _ k hne).trans (Below.heap_setCell _ _ _ k hne)))
end Go.Proofs.YtbfjnidpjmhfiaaGreatDoor

namespace Go.Proofs.YtbfjnidpjmhfiaaGreatDoor
set_option linter.unusedSimpArgs false
open Go.ChangeShapes Go.WideShapes Go.ChangeAt Go.RowKit
set_option linter.unusedVariables false
set_option maxRecDepth 100000
theorem Mn4.drew {W : World} {g : Nat} {a b c d : Value} (h : Mn4 W g a b c d) : Mn4 W.drew g a b c d := h
set_option maxHeartbeats 1600000 in
theorem catchMn (c : Int) (bC bE : Nat) (a b d f z : Value) (older : List PanicEntry) (w : World)
    (hC : Mn4 w bC a b d f) (hE : w.cell? ⟨bE, 0, none⟩ = some z) (fE : w.frozen? ⟨bE, 0, none⟩ = false) (n5 : bC ≠ bE) :
    CallsD Tryz.prog 45 #[.pointer (some ⟨bC, 0, none⟩), .pointer (some ⟨bE, 0, none⟩)] (.panicking ({ v := .iface 37 (.int .i64 c), recovered := false } :: older)) w fun e u' w' =>
      e = .returned (.tuple #[]) ∧ u' = .panicking ({ v := .iface 37 (.int .i64 c), recovered := true } :: older) ∧ Mn4 w' bC (.int .i64 0) (.int .i64 0) (.int .u64 0) (.slice none 0 0) ∧ w'.cell? ⟨bE, 0, none⟩ = some (.int .i64 c) ∧ (∀ B, B ≤ bC → B ≤ bE → Below B w w') := by
  have k0 : w.cell? ⟨bC, 0, none⟩ = some a := hC.cell 0
  have k1 : w.cell? ⟨bC, 1, none⟩ = some b := hC.cell 1
  have k2 : w.cell? ⟨bC, 2, none⟩ = some d := hC.cell 2
  have k3 : w.cell? ⟨bC, 3, none⟩ = some f := hC.cell 3
  have f0 := hC.free 0
  have f1 := hC.free 1
  have f2 := hC.free 2
  have f3 := hC.free 3
  have HC : Hid (Mn4 w bC a b d f) := hC
  clear hC
  refine callsD_of_wpS Tryz.func45 rfl fun c₀ cs hu => ?_
  apply wpS_seq
  apply wpS_region
  simp [wpOpsS, go_sem, recoverD, hu, Tryz.ntmps45, Exit.thenS]
  refine wpS_of_wp ?_
  simp only [Array.replicate, List.replicate, List.setIfInBounds_toArray, List.set_cons_zero, List.set_cons_succ, List.append_toArray, List.cons_append, List.nil_append]
  go_wp2
  have hta := assert_errno
  go_region
  change bodyPostS _ _ _ _ _ _ _ _ _
  refine ⟨rfl, _, rfl, _, results_none rfl _ _ _, rfl, rfl, ?_, ?_, ?_⟩
  · have h1 := HC.out.setAll (.int .i64 0) (.int .i64 0) (.int .u64 0) (.slice none 0 0)
    have h2 := h1.other (p := ⟨bE, 0, none⟩) (.int .i64 c) n5
    exact h2.drew
  · simp [go_sem, hE]
  · intro B h1 h3
    exact ((((((Below.refl _ _).setCell h1 _).setCell h1 _).setCell h1 _).setCell h1 _).setCell h3 _) |>.drew
theorem idleMn (pA pV : Addr) (w : World) :
    CallsD Tryz.prog 45 #[.pointer (some pA), .pointer (some pV)] .returning w fun e u' w' => e = .returned (.tuple #[]) ∧ u' = .returning ∧ w' = w := by
  refine callsD_of_wpS Tryz.func45 rfl fun c₀ cs hu => ?_
  apply wpS_seq
  apply wpS_region
  simp [wpOpsS, go_sem, recoverD, hu, Tryz.ntmps45, Exit.thenS]
  refine wpS_of_wp ?_
  simp only [Array.replicate, List.replicate, List.setIfInBounds_toArray, List.set_cons_zero, List.set_cons_succ, List.append_toArray, List.cons_append, List.nil_append]
  go_wp2
  change bodyPostS _ _ _ _ _ _ _ _ _
  cases c₀
  simp only at hu
  subst hu
  exact ⟨rfl, _, rfl, _, results_none rfl _ _ _, rfl, rfl, rfl⟩
theorem ret_mn2 {fn : Func} {p u : Tmp} (h : fn.results = #[.cell p 29, .cell u 37]) (tmps : Array Value) (w : World) (a b d : Int) (f : Value) (c : Int) (g gu : Nat) (hp : tmps.getD p undef = .pointer (some ⟨g, 0, none⟩)) (hu : tmps.getD u undef = .pointer (some ⟨gu, 0, none⟩))
    (hg : Mn4 w g (.int .i64 a) (.int .i64 b) (.int .u64 d) f) (cu : w.cell? ⟨gu, 0, none⟩ = some (.int .i64 c)) :
    (results fn tmps).run Tryz.prog w = .ok (.tuple #[.agg #[.int .i64 a, .int .i64 b, .int .u64 d, f], .int .i64 c]) w := by
  have hp' : tmps[p]?.getD undef = .pointer (some ⟨g, 0, none⟩) := by simpa using hp
  have hu' : tmps[u]?.getD undef = .pointer (some ⟨gu, 0, none⟩) := by simpa using hu
  have q0 : w.cell? ⟨g, 0, none⟩ = some (.int .i64 a) := hg.cell 0
  have q1 : w.cell? ⟨g, 1, none⟩ = some (.int .i64 b) := hg.cell 1
  have q2 : w.cell? ⟨g, 2, none⟩ = some (.int .u64 d) := hg.cell 2
  have q3 : w.cell? ⟨g, 3, none⟩ = some f := hg.cell 3
  simp [results, h, hp', hu', asAddr, go_sem, q0, q1, q2, q3, cu]
/-- What DecodeManifest answers. -/
def DmC (w : World) (b : ByteArray) (e : Ending) (w' : World) : Prop :=
  Below w.heap.size w w' ∧ ((∃ gen next upto ps v, MoYes b gen next upto ps ∧ e = .returned (.tuple #[.agg #[.int .i64 gen, .int .i64 next, .int .u64 upto, v], .int .i64 0]) ∧ ownP w' w.heap.size v ps) ∨ ∃ c, MoNo b c ∧ e = .returned (.tuple #[.agg #[.int .i64 0, .int .i64 0, .int .u64 0, .slice none 0 0], .int .i64 c]))
set_option maxHeartbeats 3200000 in
theorem decMan_any (w : World) (b : ByteArray) (hs : b.size ≤ 1125899906842624) (hT : HalfAt w) : Calls Tryz.prog 22 #[.string b] w (DmC w b) := by
  have hmf : ∀ (fn : Fn) (first cap : Array Value) (w : World), (Instr.makeFunc fn first cap).run Tryz.prog w = .ok (.func fn first cap) w := fun _ _ _ _ => rfl
  have HBw : Hid (Below w.heap.size w ((w.alloc (.cells #[.int .i64 0, .int .i64 0, .int .u64 0, .slice none 0 0] 29)).alloc (.cells #[.int .i64 0] 37))) := ((Below.refl _ _).alloc (Nat.le_refl _) _).alloc (by simp) _
  have HZ : Hid (Mn4 ((w.alloc (.cells #[.int .i64 0, .int .i64 0, .int .u64 0, .slice none 0 0] 29)).alloc (.cells #[.int .i64 0] 37)) w.heap.size (.int .i64 0) (.int .i64 0) (.int .u64 0) (.slice none 0 0)) := (Below.heap_alloc _ _ _ (by simp)).trans (heap_alloc_new w _)
  have hE : ((w.alloc (.cells #[.int .i64 0, .int .i64 0, .int .u64 0, .slice none 0 0] 29)).alloc (.cells #[.int .i64 0] 37)).cell? ⟨w.heap.size + 1, 0, none⟩ = some (.int .i64 0) := by simp [go_sem]
  have fE : ((w.alloc (.cells #[.int .i64 0, .int .i64 0, .int .u64 0, .slice none 0 0] 29)).alloc (.cells #[.int .i64 0] 37)).frozen? ⟨w.heap.size + 1, 0, none⟩ = false := by simp [go_sem]
  have hsz : ((w.alloc (.cells #[.int .i64 0, .int .i64 0, .int .u64 0, .slice none 0 0] 29)).alloc (.cells #[.int .i64 0] 37)).heap.size = w.heap.size + 2 := by simp
  have HT : Hid (HalfAt ((w.alloc (.cells #[.int .i64 0, .int .i64 0, .int .u64 0, .slice none 0 0] 29)).alloc (.cells #[.int .i64 0] 37))) := hT.later HBw.out
  have HE : Hid _ := hE
  have HFE : Hid _ := fE
  clear hE fE hT
  go_enter_defers Tryz.func22, Tryz.ntmps22
  go_wp2_with fail
  generalize (w.alloc (.cells #[.int .i64 0, .int .i64 0, .int .u64 0, .slice none 0 0] 29)).alloc (.cells #[.int .i64 0] 37) = W2 at *
  refine (manifestOf_any W2 b hs HT.out).mono ?_
  rintro e w3 ⟨hb, hm⟩
  have HZ3 : Hid (Mn4 w3 w.heap.size (.int .i64 0) (.int .i64 0) (.int .u64 0) (.slice none 0 0)) := HZ.out.later hb HZ.out.lt
  have hE3 := (hb.cell (p := ⟨w.heap.size + 1, 0, none⟩) (by simp only; omega)).trans HE.out
  have fE3 := (hb.frozen (p := ⟨w.heap.size + 1, 0, none⟩) (by simp only; omega)).trans HFE.out
  have HB3 : Hid (Below w.heap.size w w3) := HBw.out.trans (hb.mono HBw.out.size)
  clear hb HE HFE HBw HZ HT
  rcases hm with ⟨gen, next, upto, ps, v, hy, rfl, hown⟩ | ⟨c, hn, rfl⟩
  · have HY : Hid (MoYes b gen next upto ps) := hy
    have HO : Hid (ownP w3 W2.heap.size v ps) := hown
    obtain ⟨a', n', c', rfl⟩ := hown.isSlice
    clear hown hy
    have z0 : w3.cell? ⟨w.heap.size, 0, none⟩ = some (.int .i64 0) := HZ3.out.cell 0
    have z1 : w3.cell? ⟨w.heap.size, 1, none⟩ = some (.int .i64 0) := HZ3.out.cell 1
    have z2 : w3.cell? ⟨w.heap.size, 2, none⟩ = some (.int .u64 0) := HZ3.out.cell 2
    have z3 : w3.cell? ⟨w.heap.size, 3, none⟩ = some (.slice none 0 0) := HZ3.out.cell 3
    have o0 := HZ3.out.free 0
    have o1 := HZ3.out.free 1
    have o2 := HZ3.out.free 2
    have o3 := HZ3.out.free 3
    go_wp2
    refine leaves_cons (f := 45) (args := #[.pointer (some ⟨w.heap.size, 0, none⟩), .pointer (some ⟨w.heap.size + 1, 0, none⟩)]) (by simp) (by simp [go_sem]) ?_
    refine (idleMn _ _ _).mono ?_
    rintro e u' w4 ⟨rfl, rfl, rfl⟩
    have h1 := (HZ3.out.setAll (.int .i64 gen) (.int .i64 next) (.int .u64 upto) (.slice a' n' c')).other (p := ⟨w.heap.size + 1, 0, none⟩) (.int .i64 0) (by simp only; omega)
    refine ⟨.tuple #[.agg #[.int .i64 gen, .int .i64 next, .int .u64 upto, .slice a' n' c'], .int .i64 0], ret_mn2 rfl _ _ _ _ _ _ _ _ _ (by rfl) (by rfl) h1 (by simp [go_sem, hE3]), ?_, .inl ⟨gen, next, upto, ps, _, HY.out, rfl, ?_⟩⟩
    · exact ((((HB3.out.setCell (p := ⟨w.heap.size, 0, none⟩) (Nat.le_refl _) _).setCell (p := ⟨w.heap.size, 1, none⟩) (Nat.le_refl _) _).setCell (p := ⟨w.heap.size, 2, none⟩) (Nat.le_refl _) _).setCell (p := ⟨w.heap.size, 3, none⟩) (Nat.le_refl _) _).setCell (p := ⟨w.heap.size + 1, 0, none⟩) (by simp only; omega) _
    · refine (HO.out.same fun k hk hB => ?_).mono (by omega)
      have hne : k ≠ w.heap.size := by omega
      have hne2 : k ≠ w.heap.size + 1 := by omega
      exact (Below.heap_setCell _ _ _ k hne2).trans ((Below.heap_setCell _ _ _ k hne).trans ((Below.heap_setCell _ _ _ k hne).trans ((Below.heap_setCell _ _ _ k hne).trans (Below.heap_setCell _ _ _ k hne))))
  · refine leaves_cons (f := 45) (args := #[.pointer (some ⟨w.heap.size, 0, none⟩), .pointer (some ⟨w.heap.size + 1, 0, none⟩)]) (by simp) (by simp [go_sem]) ?_
    refine (catchMn c _ _ _ _ _ _ _ [] _ HZ3.out hE3 fE3 (by omega)).mono ?_
    rintro e u' w4 ⟨rfl, rfl, dV, dE, hb2⟩
    refine ⟨.tuple #[.agg #[.int .i64 0, .int .i64 0, .int .u64 0, .slice none 0 0], .int .i64 c], ret_mn2 rfl _ _ _ _ _ _ _ _ _ (by rfl) (by rfl) dV dE, ?_, .inr ⟨c, hn, rfl⟩⟩
    exact HB3.out.trans (hb2 _ (by omega) (by omega))
end Go.Proofs.YtbfjnidpjmhfiaaGreatDoor
