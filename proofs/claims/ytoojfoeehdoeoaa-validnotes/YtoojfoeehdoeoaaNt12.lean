import Derived.Test.YtoojfoeehdoeoaaNt11
import Derived.Deep.QuietTactic
import Derived.BigQuiet
namespace Go.Proofs.Ytoojfoeehdoeoaa
open Go.ChangeShapes Go.WideShapes Go.ChangeAt Go.RowKit Go.Maps
set_option linter.unusedVariables false
set_option maxRecDepth 100000
theorem setCellN {w : World} {b j : Nat} {c : Array Value} {t : TypeId} {fz : Nat × Nat} (v : Value) (h : w.heap[b]? = some (.cells c t fz)) : (w.setCell ⟨b, j, none⟩ v).heap[b]? = some (.cells (c.setIfInBounds j v) t fz) := by
  have hb : b < w.heap.size := (Array.getElem?_eq_some_iff.1 h).1
  have he := (Array.getElem?_eq_some_iff.1 h).2
  show (w.heap.modify b _)[b]? = _
  rw [Array.getElem?_modify]
  simp [he, hb]
theorem ownsRow_setN {w : World} {B : Nat} {e : TypeId} {size g n cap : Nat} {xs : List Value} (h : w.ownsRow B e size (.slice (some ⟨g, 0, none⟩) n cap) n xs) (j : Nat) (x : Value) : (w.setCell ⟨g, j, none⟩ x).ownsRow B e size (.slice (some ⟨g, 0, none⟩) n cap) n (xs.set j x) := by
  obtain ⟨hl, h2⟩ := h
  rcases h2 with ⟨h', _⟩ | ⟨g', cap', cur, h', hb, hg, hnc, hm, hs, ht⟩
  · simp at h'
  · simp only [Value.slice.injEq, Option.some.injEq, Addr.mk.injEq, and_true] at h'
    obtain ⟨rfl, _, rfl⟩ := h'
    refine ⟨by rw [List.length_set]; exact hl, .inr ⟨g, cap, _, rfl, hb, setCellN x hg, hnc, hm, by simpa using hs, ?_⟩⟩
    rw [Array.toList_setIfInBounds, List.take_set, ht]
theorem cellsR_set : ∀ (ms : List R2) (k : Nat) (x : R2) (hk : k < ms.length), ((cellsR ms).set (k * 2) (.string x.1)).set (k * 2 + 1) (.string x.2) = cellsR (ms.set k x)
  | m :: ms, 0, x, _ => by simp [cellsR]
  | m :: ms, k + 1, x, hk => by
    have ih := cellsR_set ms k x (by simpa using hk)
    rw [cellsR, List.set_cons_succ, cellsR, ← ih, show (k + 1) * 2 = k * 2 + 1 + 1 from by omega]
    simp
/-- A row of numbers in a block of lo .. hi. -/
def RI (w : World) (lo hi : Nat) (v : Value) (xs : List Int) : Prop := ownI w lo v xs ∧ ∀ b, v.ownBlock = some b → b < hi
def RR (t : TypeId) (w : World) (lo hi : Nat) (v : Value) (xs : List R2) : Prop := ownRg t w lo v xs ∧ ∀ b, v.ownBlock = some b → b < hi
def Iv (lo hi : Nat) : Nat → Prop := fun b => lo ≤ b ∧ b < hi
theorem RI.of {w w' : World} {v : Value} {xs : List Int} (h : ownI w' w.heap.size v xs) : RI w' w.heap.size w'.heap.size v xs := ⟨h, fun b hb => (World.ownsRow.lt h b hb).2⟩
theorem RR.of {t : TypeId} {w w' : World} {v : Value} {xs : List R2} (h : ownRg t w' w.heap.size v xs) : RR t w' w.heap.size w'.heap.size v xs := ⟨h, fun b hb => (World.ownsRow.lt h b hb).2⟩
theorem RI.keeps {w w' : World} {lo hi : Nat} {v : Value} {xs : List Int} {B : Nat → Prop} (h : RI w lo hi v xs) (hk : Keeps B w w') (hd : ∀ b, lo ≤ b → b < hi → ¬ B b) : RI w' lo hi v xs :=
  ⟨ownsRow_of_block h.1 (fun b hb => hk.block b (World.ownsRow.lt h.1 b hb).2 (hd b (World.ownsRow.lt h.1 b hb).1 (h.2 b hb))), h.2⟩
theorem RR.keeps {t : TypeId} {w w' : World} {lo hi : Nat} {v : Value} {xs : List R2} {B : Nat → Prop} (h : RR t w lo hi v xs) (hk : Keeps B w w') (hd : ∀ b, lo ≤ b → b < hi → ¬ B b) : RR t w' lo hi v xs :=
  ⟨ownsRow_of_block h.1 (fun b hb => hk.block b (World.ownsRow.lt h.1 b hb).2 (hd b (World.ownsRow.lt h.1 b hb).1 (h.2 b hb))), h.2⟩
theorem RI.later {w w' : World} {lo hi : Nat} {v : Value} {xs : List Int} (h : RI w lo hi v xs) (hb : Below w.heap.size w w') : RI w' lo hi v xs := h.keeps (Below.keeps hb (fun _ => False)) (fun _ _ _ h => h)
theorem RR.later {t : TypeId} {w w' : World} {lo hi : Nat} {v : Value} {xs : List R2} (h : RR t w lo hi v xs) (hb : Below w.heap.size w w') : RR t w' lo hi v xs := h.keeps (Below.keeps hb (fun _ => False)) (fun _ _ _ h => h)
theorem ownI.form {w : World} {lo : Nat} {v : Value} {xs : List Int} (h : ownI w lo v xs) : ∃ sp cap, v = .slice sp xs.length cap := by
  rcases h.2 with ⟨rfl, hn⟩ | ⟨b, cap, cur, rfl, h1, h2, h3⟩
  · exact ⟨none, 0, by rw [hn]⟩
  · exact ⟨some ⟨b, 0, none⟩, cap, rfl⟩
theorem ownRg.form {t : TypeId} {w : World} {lo : Nat} {v : Value} {xs : List R2} (h : ownRg t w lo v xs) : ∃ sp cap, v = .slice sp xs.length cap := by
  rcases h.2 with ⟨rfl, hn⟩ | ⟨b, cap, cur, rfl, h1, h2, h3⟩
  · exact ⟨none, 0, by rw [hn]⟩
  · exact ⟨some ⟨b, 0, none⟩, cap, rfl⟩
theorem RI.at {w : World} {lo hi : Nat} {sp : Option Addr} {n cap : Nat} {xs : List Int} (h : RI w lo hi (.slice sp n cap) xs) (i : Nat) (hl : i < xs.length) : ∃ b, sp = some ⟨b, 0, none⟩ ∧ lo ≤ b ∧ b < hi ∧ b < w.heap.size ∧ w.cell? ⟨b, i, none⟩ = some (.int .i64 xs[i]) ∧ w.frozen? ⟨b, i, none⟩ = false := by
  rcases h.1.2 with ⟨h0, hn⟩ | ⟨b, cap', cur, h0, h1, h2, h3⟩
  · omega
  · injection h0 with e1 e2 e3
    subst e1 e3
    have hc := World.ownsRow.cellAt (g := b) (cap := cap) (by have := h.1; unfold ownI at this; rw [e2] at this; exact this) i (by omega)
    have hlt := World.ownsRow.lt h.1 b rfl
    refine ⟨b, rfl, hlt.1, h.2 b rfl, hlt.2, hc.trans (by simp [cellsI, List.getElem?_eq_getElem hl]), by simp [World.frozen?, h2]⟩
theorem RR.at {t : TypeId} {w : World} {lo hi : Nat} {sp : Option Addr} {n cap : Nat} {xs : List R2} (h : RR t w lo hi (.slice sp n cap) xs) (i : Nat) (hl : i < xs.length) : ∃ b, sp = some ⟨b, 0, none⟩ ∧ lo ≤ b ∧ b < hi ∧ b < w.heap.size ∧ w.cell? ⟨b, i * 2, none⟩ = some (.string xs[i].1) ∧ w.cell? ⟨b, i * 2 + 1, none⟩ = some (.string xs[i].2) ∧ w.frozen? ⟨b, i * 2, none⟩ = false ∧ w.frozen? ⟨b, i * 2 + 1, none⟩ = false := by
  rcases h.1.2 with ⟨h0, hn⟩ | ⟨b, cap', cur, h0, h1, h2, h3⟩
  · omega
  · injection h0 with e1 e2 e3
    subst e1 e3
    have ho : w.ownsRow lo t 2 (.slice (some ⟨b, 0, none⟩) xs.length cap) xs.length (cellsR xs) := by have := h.1; unfold ownRg at this; rw [e2] at this; exact this
    have hc := World.ownsRow.cellAt (g := b) (cap := cap) ho (i * 2) (by omega)
    have hd := World.ownsRow.cellAt (g := b) (cap := cap) ho (i * 2 + 1) (by omega)
    have hlt := World.ownsRow.lt h.1 b rfl
    obtain ⟨c0, c1⟩ := cellsR_get xs i hl
    exact ⟨b, rfl, hlt.1, h.2 b rfl, hlt.2, hc.trans c0, hd.trans c1, by simp [World.frozen?, h2], by simp [World.frozen?, h2]⟩
theorem RI.put {w : World} {lo hi b cap : Nat} {xs : List Int} {n : Nat} (h : RI w lo hi (.slice (some ⟨b, 0, none⟩) n cap) xs) (hn : xs.length = n) (k : Nat) (y : Int) : RI (w.setCell ⟨b, k, none⟩ (.int .i64 y)) lo hi (.slice (some ⟨b, 0, none⟩) n cap) (xs.set k y) := by
  subst hn
  refine ⟨?_, h.2⟩
  have := ownsRow_setN h.1 k (.int .i64 y)
  unfold ownI
  rw [List.length_set]
  have e : cellsI (xs.set k y) = (cellsI xs).set k (.int .i64 y) := by simp [cellsI, List.map_set]
  rw [e]
  exact this
theorem RR.put {t : TypeId} {w : World} {lo hi b cap : Nat} {xs : List R2} {n : Nat} (h : RR t w lo hi (.slice (some ⟨b, 0, none⟩) n cap) xs) (hn : xs.length = n) (k : Nat) (hk : k < n) (x y : ByteArray) : RR t ((w.setCell ⟨b, k * 2, none⟩ (.string x)).setCell ⟨b, k * 2 + 1, none⟩ (.string y)) lo hi (.slice (some ⟨b, 0, none⟩) n cap) (xs.set k (x, y)) := by
  subst hn
  refine ⟨?_, h.2⟩
  unfold ownRg
  rw [List.length_set, ← cellsR_set xs k (x, y) hk]
  exact ownsRow_setN (ownsRow_setN h.1 _ _) _ _
theorem Keeps.drewN {B : Nat → Prop} {a w : World} (h : Keeps B a w) (n : Nat) : Keeps B a (w.drewN n) := by
  induction n with
  | zero => exact h
  | succ n ih => exact ih.drew
theorem RI.drewN {w : World} {lo hi : Nat} {v : Value} {xs : List Int} (h : RI w lo hi v xs) (n : Nat) : RI (w.drewN n) lo hi v xs := h.keeps ((Keeps.refl (fun _ => False) w).drewN n) (fun _ _ _ h => h)
theorem RR.drewN {t : TypeId} {w : World} {lo hi : Nat} {v : Value} {xs : List R2} (h : RR t w lo hi v xs) (n : Nat) : RR t (w.drewN n) lo hi v xs := h.keeps ((Keeps.refl (fun _ => False) w).drewN n) (fun _ _ _ h => h)
theorem set_past {α : Type} {zs xs : List α} {k : Nat} {y : α} (h : ∀ j, k ≤ j → zs[j]? = xs[j]?) : ∀ j, k + 1 ≤ j → (zs.set k y)[j]? = xs[j]? := fun j hj => by
  rw [List.getElem?_set_ne (by omega)]
  exact h j (by omega)
theorem past_at {α : Type} {zs xs : List α} {k : Nat} (h : ∀ j, k ≤ j → zs[j]? = xs[j]?) (h1 : k < zs.length) (h2 : k < xs.length) : zs[k] = xs[k] := by
  have := h k (Nat.le_refl _)
  rw [List.getElem?_eq_getElem h1, List.getElem?_eq_getElem h2] at this
  injection this
theorem heap_dN (w : World) (n : Nat) : (w.drewN n).heap = w.heap := by
  induction n with
  | zero => rfl
  | succ n ih => exact ih
theorem cell_oneN (W : World) (x : Value) (t : TypeId) : (W.alloc (.cells #[x] t)).cell? ⟨W.heap.size, 0, none⟩ = some x := by simp
theorem conv_oneN (wr : World) (n : Nat) (c : Int) : (convert 62 9 (.slice (some ⟨wr.heap.size, 0, none⟩) 1 1)).run Try.prog ((wr.drewN n).alloc (.cells #[.int .u8 c] 5)) = .ok (.string (strOfNums [c])) ((wr.drewN n).alloc (.cells #[.int .u8 c] 5)) := by
  refine run_convert_bytes_arg _ 62 5 Try.underlying62 Try.underlying5 wr.heap.size 0 1 1 [c] rfl (fun i hi => ?_) 9 Try.underlying9
  match i, hi with
  | 0, _ => exact cell_oneN (wr.drewN n) _ _
theorem cell_alN (w : World) (n : Nat) (ob : Obj) {p : Addr} (h : p.block < w.heap.size) : ((w.drewN n).alloc ob).cell? p = w.cell? p := (cell_al (w.drewN n) ob (by rw [heap_dN]; exact h)).trans (World.cell?_of_block (w := w) (by rw [heap_dN]))
theorem frozen_alN (w : World) (n : Nat) (ob : Obj) {p : Addr} (h : p.block < w.heap.size) : ((w.drewN n).alloc ob).frozen? p = w.frozen? p := (frozen_al (w.drewN n) ob (by rw [heap_dN]; exact h)).trans (World.frozen?_of_block (w := w) (by rw [heap_dN]))
theorem app1I {wr : World} {B : Nat} {v : Value} {xs : List Int} (c : Int) (h : ownI wr B v xs) (hl : xs.length ≤ 1000) (hB : B ≤ wr.heap.size) :
    ∃ v' w', (Builtin.append_ #[28, 28] 28 #[v, .slice (some ⟨wr.heap.size, 0, none⟩) 1 1]).run Try.prog (wr.alloc (.cells #[.int .i64 c] 3)) = .ok v' w' ∧ ownI w' B v' (xs ++ [c]) ∧ (wr.alloc (.cells #[.int .i64 c] 3)).grownBy w' v.ownBlock ∧ (v'.ownBlock = v.ownBlock ∨ v'.ownBlock = some (wr.heap.size + 1)) := by
  obtain ⟨i0, hi, hz0, hz1, hz2⟩ := info_parts infoI0
  obtain ⟨v4, w4, hrun4, hrow4, hgrow4, hnil4, hloc4⟩ := run_append_own_at (P := Try.prog) (w := wr.alloc (.cells #[.int .i64 c] 3)) B 28 28 3 i0 _ 1 8 Try.underlying28 hi hz0 hz1 hz2 rfl (by decide) v xs.length _ (World.ownsRow.alloc h _) ⟨wr.heap.size, 0, none⟩ 1 1 [.int .i64 c] rfl (cell_one_new _ _ _) (ints_oneCell .i64 [c]) (by unfold maxLen; omega) (by omega) (by simp; omega)
  refine ⟨v4, w4, hrun4, ?_, hgrow4, by simpa using hloc4⟩
  unfold ownI
  rw [List.length_append, cellsI_snoc]
  exact hrow4
theorem app1R {wr : World} {B : Nat} {v : Value} {xs : List R2} (c d : ByteArray) (h : ownRg 60 wr B v xs) (hl : xs.length ≤ 1000) (hB : B ≤ wr.heap.size) :
    ∃ v' w', (Builtin.append_ #[38, 38] 38 #[v, .slice (some ⟨wr.heap.size, 0, none⟩) 1 1]).run Try.prog (wr.alloc (.cells #[.string c, .string d] 60)) = .ok v' w' ∧ ownRg 60 w' B v' (xs ++ [(c, d)]) ∧ (wr.alloc (.cells #[.string c, .string d] 60)).grownBy w' v.ownBlock ∧ (v'.ownBlock = v.ownBlock ∨ v'.ownBlock = some (wr.heap.size + 1)) := by
  obtain ⟨i0, hi, hz0, hz1, hz2⟩ := info_parts infoR0
  obtain ⟨v4, w4, hrun4, hrow4, hgrow4, hnil4, hloc4⟩ := run_append_own_at (P := Try.prog) (w := wr.alloc (.cells #[.string c, .string d] 60)) B 38 38 60 i0 _ 2 32 Try.underlying38 hi hz0 hz1 hz2 rfl (by decide) v xs.length _ (World.ownsRow.alloc h _) ⟨wr.heap.size, 0, none⟩ 1 1 [.string c, .string d] rfl (fun j u hj => by
      match j, hj with
      | 0, hj => simp at hj; subst hj; exact (cell_two_new wr _ _ _).1
      | 1, hj => simp at hj; subst hj; exact (cell_two_new wr _ _ _).2) (by intro u hu; simp at hu; rcases hu with rfl | rfl <;> rfl) (by unfold maxLen; omega) (by omega) (by simp; omega)
  refine ⟨v4, w4, hrun4, ?_, hgrow4, by simpa using hloc4⟩
  unfold ownRg
  rw [List.length_append, cellsR_app]
  exact hrow4
/-- The blocks of the rows that are read to the end. -/
def Pt (h1 h3 h4 h5 h6 : Nat) (b : Nat) : Prop := (h1 ≤ b ∧ b < h3) ∨ (h4 ≤ b ∧ b < h6)
theorem ownRg.from {t : TypeId} {w : World} {B C : Nat} {v : Value} {xs : List R2} (h : ownRg t w B v xs) (hc : C ≤ B) : ownRg t w C v xs := by
  refine ⟨h.1, ?_⟩
  rcases h.2 with h1 | ⟨g, cap, cur, h1, h2, h3⟩
  · exact Or.inl h1
  · exact Or.inr ⟨g, cap, cur, h1, Nat.le_trans hc h2, h3⟩
set_option maxHeartbeats 6400000 in
theorem listed_any (w : World) (g r : Nat) (W : Nat → Prop) (xs : List Int) (rs : List R2) (h : Duo w g r W xs rs) :
    Calls Try.prog 7 #[.pointer (some ⟨g, 0, none⟩), .pointer (some ⟨r, 0, none⟩)] w fun e w' => e = .returned (.bool true) ∧ Below w.heap.size w w' := by
  obtain ⟨U, V, hP, hD, _, _, _, hx, hr, hok⟩ := h
  have HP : Hid (Ps w g U xs rs) := hP
  have HD : Hid (Ds w r V xs rs) := hD
  clear hP hD hok
  go_enter Try.func7, Try.ntmps7
  go_wp2_with fail
  refine (ps_slots w g U xs rs HP.out hx).mono ?_
  rintro _ w1 ⟨va, rfl, o1, b1⟩
  have HB1 : Hid (Below w.heap.size w w1) := b1
  have HA1 : Hid (RI w1 w.heap.size w1.heap.size va xs) := RI.of o1
  clear o1 b1
  go_wp2_with fail
  refine (ps_slots w1 g U xs rs (HP.out.later HB1.out) hx).mono ?_
  rintro _ w2 ⟨va2, rfl, o2, b2⟩
  have HB2 : Hid (Below w1.heap.size w1 w2) := b2
  have HA2 : Hid (RI w2 w1.heap.size w2.heap.size va2 xs) := RI.of o2
  clear o2 b2
  go_wp2_with fail
  have HB02 : Hid (Below w.heap.size w w2) := HB1.out.trans (HB2.out.mono HB1.out.size)
  refine (ds_slots w2 r V xs rs (HD.out.later HB02.out) hx).mono ?_
  rintro _ w3 ⟨vb, rfl, o3, b3⟩
  have HB3 : Hid (Below w2.heap.size w2 w3) := b3
  have HA3 : Hid (RI w3 w2.heap.size w3.heap.size vb xs) := RI.of o3
  have HB03 : Hid (Below w.heap.size w w3) := HB02.out.trans (HB3.out.mono HB02.out.size)
  clear o3 b3
  go_wp2_with fail
  refine (ps_ranges w3 g U xs rs (HP.out.later HB03.out) hr).mono ?_
  rintro _ w4 ⟨vc, rfl, o4, b4⟩
  have HB4 : Hid (Below w3.heap.size w3 w4) := b4
  have HA4 : Hid (RR 60 w4 w3.heap.size w4.heap.size vc rs) := RR.of o4
  have HB04 : Hid (Below w.heap.size w w4) := HB03.out.trans (HB4.out.mono HB03.out.size)
  clear o4 b4
  go_wp2_with fail
  refine (ps_ranges w4 g U xs rs (HP.out.later HB04.out) hr).mono ?_
  rintro _ w5 ⟨vc2, rfl, o5, b5⟩
  have HB5 : Hid (Below w4.heap.size w4 w5) := b5
  have HA5 : Hid (RR 60 w5 w4.heap.size w5.heap.size vc2 rs) := RR.of o5
  have HB05 : Hid (Below w.heap.size w w5) := HB04.out.trans (HB5.out.mono HB04.out.size)
  clear o5 b5
  go_wp2_with fail
  refine (ds_ranges w5 r V xs rs (HD.out.later HB05.out) hr).mono ?_
  rintro _ w6 ⟨vd, rfl, o6, b6⟩
  have HB6 : Hid (Below w5.heap.size w5 w6) := b6
  have HA6 : Hid (RR 61 w6 w5.heap.size w6.heap.size vd rs) := RR.of o6
  have HB06 : Hid (Below w.heap.size w w6) := HB05.out.trans (HB6.out.mono HB05.out.size)
  clear o6 b6 HP HD
  have s1 := HB1.out.size
  have s2 := HB2.out.size
  have s3 := HB3.out.size
  have s4 := HB4.out.size
  have s5 := HB5.out.size
  have s6 := HB6.out.size
  have K5 := HB6.out
  have K4 := HB5.out.trans (HB6.out.mono HB5.out.size)
  have K3 := HB4.out.trans (K4.mono HB4.out.size)
  have K2 := HB3.out.trans (K3.mono HB3.out.size)
  have K1 := HB2.out.trans (K2.mono HB2.out.size)
  have A1 : Hid (RI w6 w.heap.size w1.heap.size va xs) := HA1.out.later K1
  have A2 : Hid (RI w6 w1.heap.size w2.heap.size va2 xs) := HA2.out.later K2
  have A3 : Hid (RI w6 w2.heap.size w3.heap.size vb xs) := HA3.out.later K3
  have A4 : Hid (RR 60 w6 w3.heap.size w4.heap.size vc rs) := HA4.out.later K4
  have A5 : Hid (RR 60 w6 w4.heap.size w5.heap.size vc2 rs) := HA5.out.later K5
  have A6 := HA6
  clear K1 K2 K3 K4 K5 HA1 HA2 HA3 HA4 HA5 HA6 HB1 HB2 HB3 HB4 HB5 HB6 HB02 HB03 HB04 HB05
  generalize hh0 : w.heap.size = h0 at *
  have HH0 : Hid _ := hh0
  clear hh0
  generalize w1.heap.size = h1 at *
  generalize w2.heap.size = h2 at *
  generalize w3.heap.size = h3 at *
  generalize w4.heap.size = h4 at *
  generalize w5.heap.size = h5 at *
  obtain ⟨pa, ca, rfl⟩ := A1.out.1.form
  obtain ⟨pa2, ca2, rfl⟩ := A2.out.1.form
  obtain ⟨pb, cb, rfl⟩ := A3.out.1.form
  obtain ⟨pc, cc, rfl⟩ := A4.out.1.form
  obtain ⟨pc2, cc2, rfl⟩ := A5.out.1.form
  obtain ⟨pd, cd, rfl⟩ := A6.out.1.form
  go_wp2
  go_loopw [11, 12] (fun c i wr => ∃ k : Nat, k ≤ xs.length ∧ i = .int .i64 k ∧ c = .bool true ∧ Keeps (Iv h0 h1) w6 wr ∧ ∃ zs : List Int, zs.length = xs.length ∧ (∀ j, k ≤ j → zs[j]? = xs[j]?) ∧ RI wr h0 h1 (.slice pa xs.length ca) zs) (fun _ i _ => xs.length - (intOf i).toNat)
  case atStart => exact ⟨0, Nat.zero_le _, rfl, rfl, Keeps.refl _ _, xs, rfl, fun _ _ => rfl, A1.out⟩
  case round =>
    obtain ⟨k, hk, rfl, rfl, hkp, zs, hzl, hzp, hzr⟩ := hrel
    by_cases hkl : k < xs.length
    · have hzk := past_at hzp (by omega) hkl
      obtain ⟨ba, e1, l1, l2, l3, c1, f1⟩ := hzr.at k (by omega)
      obtain ⟨bb, e2, l4, l5, l6, c2, f2⟩ := (A3.out.keeps hkp (fun b x y z => by have := z.2; omega)).at k hkl
      rw [hzk] at c1
      have HK : Hid (Keeps (Iv h0 h1) w6 wr) := hkp
      have HZ : Hid (RI wr h0 h1 (.slice pa xs.length ca) zs) := hzr
      have HZP : Hid (∀ j, k ≤ j → zs[j]? = xs[j]?) := hzp
      have HZL : Hid (zs.length = xs.length) := hzl
      generalize xs[k] = x at c1 c2
      clear hkp hzr hzp hzk f2 hzl
      subst e1 e2
      go_wp2_with fail
      go_quiet (fail)
      go_wp2
      go_roundw
      case rel => exact ⟨k + 1, by omega, by go_num, by first | rfl | trivial, (HK.out.drewN _).setCell (p := ⟨ba, k, none⟩) ⟨l1, l2⟩ _, _, by rw [List.length_set]; exact HZL.out, set_past HZP.out, (HZ.out.drewN _).put HZL.out k _⟩
      case measure => simp [intOf]; omega
    · have hke : k = xs.length := by omega
      subst hke
      clear hk hkl hzp
      have HK0 : Hid (Keeps (Iv h0 h1) w6 wr) := hkp
      have HZ0 : Hid (RI wr h0 h1 (.slice pa xs.length ca) zs) := hzr
      have HZL : Hid (zs.length = xs.length) := hzl
      clear hkp hzr hzl
      obtain ⟨w7, hw7⟩ : ∃ w7, w7 = wr := ⟨_, rfl⟩
      subst hw7
      go_wp2
      go_loopw [11, 13] (fun c i wr => ∃ k : Nat, k ≤ rs.length ∧ i = .int .i64 k ∧ c = .bool true ∧ Keeps (fun b => Iv h0 h1 b ∨ Iv h3 h4 b) w6 wr ∧ RI wr h0 h1 (.slice pa xs.length ca) zs ∧ ∃ ys : List R2, ys.length = rs.length ∧ (∀ j, k ≤ j → ys[j]? = rs[j]?) ∧ RR 60 wr h3 h4 (.slice pc rs.length cc) ys) (fun _ i _ => rs.length - (intOf i).toNat)
      case atStart => exact ⟨0, Nat.zero_le _, rfl, rfl, HK0.out.mono (fun b _ hb => Or.inl hb), HZ0.out, rs, rfl, fun _ _ => rfl, A4.out.keeps HK0.out (fun b x y z => by have := z.2; omega)⟩
      case round =>
        obtain ⟨k, hk, rfl, rfl, hkp, hza, ys, hyl, hyp, hyr⟩ := hrel
        by_cases hkl : k < rs.length
        · have hyk := past_at hyp (by omega) hkl
          obtain ⟨bc, e1, l1, l2, l3, c1, d1, f1, g1⟩ := hyr.at k (by omega)
          obtain ⟨bd, e2, l4, l5, l6, c2, d2, f2, g2⟩ := (A6.out.keeps hkp (fun b x y z => by rcases z with z | z <;> (have := z.2; omega))).at k hkl
          rw [hyk] at c1 d1
          have HK : Hid (Keeps (fun b => Iv h0 h1 b ∨ Iv h3 h4 b) w6 wr) := hkp
          have HY : Hid (RR 60 wr h3 h4 (.slice pc rs.length cc) ys) := hyr
          have HYP : Hid (∀ j, k ≤ j → ys[j]? = rs[j]?) := hyp
          have HYL : Hid (ys.length = rs.length) := hyl
          have HZA : Hid (RI wr h0 h1 (.slice pa xs.length ca) zs) := hza
          generalize rs[k].1 = x1 at c1 c2
          generalize rs[k].2 = x2 at d1 d2
          clear hkp hyr hyp hyk f2 g2 hyl hza
          subst e1 e2
          go_wp2_with fail
          go_quiet (fail)
          have hcv := conv_oneN wr nq (k : Int)
          have c1n := (cell_alN wr nq (.cells #[.int .u8 (k : Int)] 5) (p := ⟨bc, k * 2, none⟩) l3).trans c1
          have d1n := (cell_alN wr nq (.cells #[.int .u8 (k : Int)] 5) (p := ⟨bc, k * 2 + 1, none⟩) l3).trans d1
          have f1n := (frozen_alN wr nq (.cells #[.int .u8 (k : Int)] 5) (p := ⟨bc, k * 2, none⟩) l3).trans f1
          have g1n := (frozen_alN wr nq (.cells #[.int .u8 (k : Int)] 5) (p := ⟨bc, k * 2 + 1, none⟩) l3).trans g1
          go_wp2
          go_roundw
          case rel =>
            have hst : Keeps (Iv h3 h4) wr ((((wr.drewN nq).alloc (.cells #[.int .u8 (k : Int)] 5)).setCell ⟨bc, k * 2, none⟩ (.string ⟨#[110, 111]⟩)).setCell ⟨bc, k * 2 + 1, none⟩ (.string (strOfNums [(k : Int)]))) :=
              ((((Keeps.refl (Iv h3 h4) wr).drewN nq).alloc _).setCell (p := ⟨bc, k * 2, none⟩) ⟨l1, l2⟩ _).setCell (p := ⟨bc, k * 2 + 1, none⟩) ⟨l1, l2⟩ _
            refine ⟨k + 1, by omega, by go_num, by first | rfl | trivial, ?_, HZA.out.keeps hst (fun b x y z => by have := z.1; omega), ys.set k (⟨#[110, 111]⟩, strOfNums [(k : Int)]), by rw [List.length_set]; exact HYL.out, set_past HYP.out, ?_⟩
            · exact HK.out.trans (hst.mono (fun b _ hb => Or.inr hb))
            · exact RR.put (HY.out.keeps (((Keeps.refl (fun _ => False) wr).drewN nq).alloc _) (fun _ _ _ h => h)) HYL.out k hkl _ _
          case measure => simp [intOf]; omega
        · have hke : k = rs.length := by omega
          subst hke
          clear hk hkl hyp A1 A4 HK0 HZ0
          have HK1 : Hid (Keeps (fun b => Iv h0 h1 b ∨ Iv h3 h4 b) w6 wr) := hkp
          have HZ1 : Hid (RI wr h0 h1 (.slice pa xs.length ca) zs) := hza
          have HY1 : Hid (RR 60 wr h3 h4 (.slice pc rs.length cc) ys) := hyr
          have HYL : Hid (ys.length = rs.length) := hyl
          clear hkp hza hyr hyl
          obtain ⟨w8, hw8⟩ : ∃ w8, w8 = wr := ⟨_, rfl⟩
          subst hw8
          go_wp2
          go_loopw [5, 8, 14] (fun va vc i wr => ∃ k : Nat, k ≤ 70 ∧ i = .int .i64 k ∧ Keeps (fun b => h0 ≤ b ∧ ¬ Pt h1 h3 h4 h5 w6.heap.size b) w6 wr ∧ ∃ (zs : List Int) (ys : List R2), zs.length ≤ 64 + k ∧ ys.length ≤ 64 + k ∧ ownI wr h0 va zs ∧ ownRg 60 wr h0 vc ys ∧ (∀ b, va.ownBlock = some b → ¬ Pt h1 h3 h4 h5 w6.heap.size b) ∧ (∀ b, vc.ownBlock = some b → ¬ Pt h1 h3 h4 h5 w6.heap.size b) ∧ (∀ b, va.ownBlock = some b → vc.ownBlock ≠ some b)) (fun _ _ i _ => 70 - (intOf i).toNat)
          case atStart =>
            refine ⟨0, by omega, rfl, HK1.out.mono (fun b _ hb => ⟨by rcases hb with hb | hb <;> (have := hb.1; omega), fun hc => ?_⟩), zs, ys, by rw [HZL.out]; omega, by rw [HYL.out]; omega, HZ1.out.1, ?_, ?_, ?_, ?_⟩
            · unfold Pt at hc
              rcases hb with hb | hb <;> (have := hb.1; have := hb.2; omega)
            · exact ownRg.from HY1.out.1 (by omega)
            · intro b hb hc
              have := HZ1.out.2 b hb
              have := (World.ownsRow.lt HZ1.out.1 b hb).1
              unfold Pt at hc; omega
            · intro b hb hc
              have := HY1.out.2 b hb
              have := (World.ownsRow.lt HY1.out.1 b hb).1
              unfold Pt at hc; omega
            · intro b hb hc
              have := HZ1.out.2 b hb
              have := (World.ownsRow.lt HY1.out.1 b hc).1
              omega
          case round =>
            obtain ⟨k, hk, rfl, hkp, zs3, ys3, hz3, hy3, oz3, oy3, pz3, py3, pzy⟩ := hrel
            have s7 := hkp.size
            by_cases hkl : k < 70
            · obtain ⟨v4, w4', hrun4, own4, grow4, loc4⟩ := app1I (-99) oz3 (by omega) (by omega)
              have s8 := grow4.size
              simp only [World.size_alloc] at s8
              have oy4 : ownRg 60 w4' h0 _ ys3 := ownsRow_of_block oy3 (fun b hb => (grow4.block b (by have := (World.ownsRow.lt oy3 b hb).2; simp; omega) (fun e => pzy b e.symm hb)).trans (Below.heap_alloc wr _ b (World.ownsRow.lt oy3 b hb).2))
              obtain ⟨v5, w5', hrun5, own5, grow5, loc5⟩ := app1R ⟨#[109, 111, 114, 101]⟩ ⟨#[]⟩ oy4 (by omega) (by omega)
              have s9 := grow5.size
              simp only [World.size_alloc] at s9
              have n45 : ∀ b, v4.ownBlock = some b → b < w4'.heap.size := fun b hb => (World.ownsRow.lt own4 b hb).2
              have HREL : Hid (Keeps (fun b => h0 ≤ b ∧ ¬ Pt h1 h3 h4 h5 w6.heap.size b) w6 w5' ∧ ∃ (zs : List Int) (ys : List R2), zs.length ≤ 64 + (k + 1) ∧ ys.length ≤ 64 + (k + 1) ∧ ownI w5' h0 v4 zs ∧ ownRg 60 w5' h0 v5 ys ∧ (∀ b, v4.ownBlock = some b → ¬ Pt h1 h3 h4 h5 w6.heap.size b) ∧ (∀ b, v5.ownBlock = some b → ¬ Pt h1 h3 h4 h5 w6.heap.size b) ∧ (∀ b, v4.ownBlock = some b → v5.ownBlock ≠ some b)) := by
                have n4 : ∀ b, v4.ownBlock = some b → Value.ownBlock _ ≠ some b := fun b hb hc => by
                  rcases loc4 with e | e
                  · exact pzy b (e ▸ hb) hc
                  · rw [e] at hb; injection hb with hb
                    have := (World.ownsRow.lt oy3 b hc).2; omega
                refine ⟨(((hkp.alloc _).grown grow4 (fun b hb => Or.inl ⟨(World.ownsRow.lt oz3 b hb).1, pz3 b hb⟩)).alloc _).grown grow5 (fun b hb => Or.inl ⟨(World.ownsRow.lt oy3 b hb).1, py3 b hb⟩), zs3 ++ [-99], ys3 ++ [(⟨#[109, 111, 114, 101]⟩, ⟨#[]⟩)], by simp; omega, by simp; omega, ?_, own5, ?_, ?_, ?_⟩
                · exact ownsRow_of_block own4 (fun b hb => (grow5.block b (by have := n45 b hb; simp; omega) (fun e => n4 b hb e.symm)).trans (Below.heap_alloc w4' _ b (n45 b hb)))
                · intro b hb hc
                  rcases loc4 with e | e
                  · exact pz3 b (e ▸ hb) hc
                  · rw [e] at hb; injection hb with hb
                    unfold Pt at hc; omega
                · intro b hb hc
                  rcases loc5 with e | e
                  · exact py3 b (e ▸ hb) hc
                  · rw [e] at hb; injection hb with hb
                    unfold Pt at hc; omega
                · intro b hb hc
                  rcases loc5 with e | e
                  · exact n4 b hb (e ▸ hc)
                  · rw [e] at hc; injection hc with hc
                    have := n45 b hb; omega
              obtain ⟨sp4, l4, c4, rfl⟩ := row_slice own4
              obtain ⟨sp5, l5, c5, rfl⟩ := row_slice own5
              obtain ⟨spz, cpz, rfl⟩ := oz3.form
              obtain ⟨spy, cpy, rfl⟩ := oy3.form
              clear oz3 oy3 own4 grow4 loc4 oy4 own5 grow5 loc5 n45 pz3 py3 pzy hkp
              go_wp2_with (at_builtin; refine wpList_plain (by rfl) fun _ hK => ?_; first | refine wp_app_run _ _ 28 (by rfl) (by rfl) (by rfl) hrun4 ?_ | refine wp_app_run _ _ 38 (by rfl) (by rfl) (by rfl) hrun5 ?_; refine hK _ _ ?_)
              go_roundw
              case rel => exact ⟨k + 1, by omega, by go_num, HREL.out⟩
              case measure => simp [intOf]; omega
            · clear hz3 hy3 oz3 oy3 pz3 py3 pzy HK1 HZ1 HY1 HYL HZL
              have hke : k = 70 := by omega
              have HK3 : Hid (Keeps (fun b => h0 ≤ b ∧ ¬ Pt h1 h3 h4 h5 w6.heap.size b) w6 wr) := hkp
              have HA2 : Hid (RI wr h1 h2 (.slice pa2 xs.length ca2) xs) := A2.out.keeps hkp (fun b x y z => z.2 (Or.inl ⟨x, by omega⟩))
              clear hkp A2 hk s7
              obtain ⟨w9, hw9⟩ : ∃ w9, w9 = wr := ⟨_, rfl⟩
              subst hw9
              go_wp2
              go_loopw [11, 15] (fun c i wr => ∃ k : Nat, k ≤ xs.length ∧ i = .int .i64 k ∧ c = .bool true ∧ Keeps (fun b => (h0 ≤ b ∧ ¬ Pt h1 h3 h4 h5 w6.heap.size b) ∨ Iv h1 h2 b) w6 wr ∧ ∃ zs : List Int, zs.length = xs.length ∧ (∀ j, k ≤ j → zs[j]? = xs[j]?) ∧ RI wr h1 h2 (.slice pa2 xs.length ca2) zs) (fun _ i _ => xs.length - (intOf i).toNat)
              case atStart => exact ⟨0, Nat.zero_le _, rfl, rfl, HK3.out.mono (fun b _ hb => Or.inl hb), xs, rfl, fun _ _ => rfl, HA2.out⟩
              case round =>
                obtain ⟨k, hk, rfl, rfl, hkp, zs, hzl, hzp, hzr⟩ := hrel
                by_cases hkl : k < xs.length
                · have hzk := past_at hzp (by omega) hkl
                  obtain ⟨ba, e1, l1, l2, l3, c1, f1⟩ := hzr.at k (by omega)
                  obtain ⟨bb, e2, l4, l5, l6, c2, f2⟩ := (A3.out.keeps hkp (fun b x y z => by
                    rcases z with z | z
                    · exact z.2 (Or.inl ⟨by omega, y⟩)
                    · have := z.2; omega)).at k hkl
                  rw [hzk] at c1
                  have HK : Hid (Keeps (fun b => (h0 ≤ b ∧ ¬ Pt h1 h3 h4 h5 w6.heap.size b) ∨ Iv h1 h2 b) w6 wr) := hkp
                  have HZ : Hid (RI wr h1 h2 (.slice pa2 xs.length ca2) zs) := hzr
                  have HZP : Hid (∀ j, k ≤ j → zs[j]? = xs[j]?) := hzp
                  have HZL : Hid (zs.length = xs.length) := hzl
                  generalize xs[k] = x at c1 c2
                  clear hkp hzr hzp hzk f2 hzl
                  subst e1 e2
                  go_wp2_with fail
                  go_quiet (fail)
                  go_wp2
                  go_roundw
                  case rel => exact ⟨k + 1, by omega, by go_num, by first | rfl | trivial, (HK.out.drewN _).setCell (p := ⟨ba, k, none⟩) (Or.inr ⟨l1, l2⟩) _, _, by rw [List.length_set]; exact HZL.out, set_past HZP.out, (HZ.out.drewN _).put HZL.out k _⟩
                  case measure => simp [intOf]; omega
                · have hke : k = xs.length := by omega
                  subst hke
                  have HK4 : Hid (Keeps (fun b => (h0 ≤ b ∧ ¬ Pt h1 h3 h4 h5 w6.heap.size b) ∨ Iv h1 h2 b) w6 wr) := hkp
                  have HA5 : Hid (RR 60 wr h4 h5 (.slice pc2 rs.length cc2) rs) := A5.out.keeps hkp (fun b x y z => by
                    rcases z with z | z
                    · exact z.2 (Or.inr ⟨x, by omega⟩)
                    · have := z.2; omega)
                  clear hk hkl hzp hkp hzr hzl A5 HK3 HA2 A3
                  obtain ⟨wA, hwA⟩ : ∃ wA, wA = wr := ⟨_, rfl⟩
                  subst hwA
                  go_wp2
                  go_loopw [11, 16] (fun c i wr => ∃ k : Nat, k ≤ rs.length ∧ i = .int .i64 k ∧ c = .bool true ∧ Keeps (fun b => ((h0 ≤ b ∧ ¬ Pt h1 h3 h4 h5 w6.heap.size b) ∨ Iv h1 h2 b) ∨ Iv h4 h5 b) w6 wr ∧ ∃ ys : List R2, ys.length = rs.length ∧ (∀ j, k ≤ j → ys[j]? = rs[j]?) ∧ RR 60 wr h4 h5 (.slice pc2 rs.length cc2) ys) (fun _ i _ => rs.length - (intOf i).toNat)
                  case atStart => exact ⟨0, Nat.zero_le _, rfl, rfl, HK4.out.mono (fun b _ hb => Or.inl hb), rs, rfl, fun _ _ => rfl, HA5.out⟩
                  case round =>
                    obtain ⟨k, hk, rfl, rfl, hkp, ys, hyl, hyp, hyr⟩ := hrel
                    by_cases hkl : k < rs.length
                    · have hyk := past_at hyp (by omega) hkl
                      obtain ⟨bc, e1, l1, l2, l3, c1, d1, f1, g1⟩ := hyr.at k (by omega)
                      obtain ⟨bd, e2, l4, l5, l6, c2, d2, f2, g2⟩ := (A6.out.keeps hkp (fun b x y z => by
                        rcases z with (z | z) | z
                        · exact z.2 (Or.inr ⟨by omega, y⟩)
                        · have := z.2; omega
                        · have := z.2; omega)).at k hkl
                      rw [hyk] at c1 d1
                      have HK : Hid (Keeps (fun b => ((h0 ≤ b ∧ ¬ Pt h1 h3 h4 h5 w6.heap.size b) ∨ Iv h1 h2 b) ∨ Iv h4 h5 b) w6 wr) := hkp
                      have HY : Hid (RR 60 wr h4 h5 (.slice pc2 rs.length cc2) ys) := hyr
                      have HYP : Hid (∀ j, k ≤ j → ys[j]? = rs[j]?) := hyp
                      have HYL : Hid (ys.length = rs.length) := hyl
                      generalize rs[k].1 = x1 at c1 c2
                      generalize rs[k].2 = x2 at d1 d2
                      clear hkp hyr hyp hyk f2 g2 hyl
                      subst e1 e2
                      go_wp2_with fail
                      go_quiet (fail)
                      go_wp2
                      go_roundw
                      case rel => exact ⟨k + 1, by omega, by go_num, by first | rfl | trivial, ((HK.out.drewN _).setCell (p := ⟨bc, k * 2, none⟩) (Or.inr ⟨l1, l2⟩) _).setCell (p := ⟨bc, k * 2 + 1, none⟩) (Or.inr ⟨l1, l2⟩) _, _, by rw [List.length_set]; exact HYL.out, set_past HYP.out, RR.put (HY.out.drewN _) HYL.out k hkl _ _⟩
                      case measure => simp [intOf]; omega
                    · have HK5 : Hid (Keeps (fun b => ((h0 ≤ b ∧ ¬ Pt h1 h3 h4 h5 w6.heap.size b) ∨ Iv h1 h2 b) ∨ Iv h4 h5 b) w6 wr) := hkp
                      have hke : k = rs.length := by omega
                      subst hke
                      clear hkp hyr hyp hyl hk hkl HK4 HA5
                      go_wp2
                      go_ret
                      rw [HH0.out]
                      refine ⟨rfl, HB06.out.trans (HK5.out.below (by omega) (fun b hb hc => ?_))⟩
                      rcases hc with (hc | hc) | hc
                      · have := hc.1; omega
                      · have := hc.1; omega
                      · have := hc.1; omega
end Go.Proofs.Ytoojfoeehdoeoaa
