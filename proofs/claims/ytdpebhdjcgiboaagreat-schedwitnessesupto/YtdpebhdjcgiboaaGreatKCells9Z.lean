import Derived.Test.YtdpebhdjcgiboaaGreatKCells8Z
import Derived.Test.YtdpebhdjcgiboaaGreatKCells2
namespace Go.Proofs.YtdpebhdjcgiboaaGreat
open Go.ChangeShapes Go.WideShapes Go.ChangeAt Go.RowKit
set_option linter.unusedVariables false
theorem infoU : (Tryz.prog.info? 257).map (fun i => (i.zero, i.size, i.bytes)) = some (some (.agg #[.int .u64 0]), 1, 8) := by kernel_rfl
theorem run_make_any {P : Program} (t e : TypeId) (z : Value) (size bytes : Nat) (ht : P.underlying t = some (.slice e)) (hinfo : (P.info? e).map (fun i => (i.zero, i.size, i.bytes)) = some (some z, size, bytes)) (n : Nat) (hbytes : bytes * n ≤ 281474976710656) (h63 : n ≤ 9223372036854775807) (w : World) :
    (Instr.makeSlice t (.int .i64 (n : Int)) (.int .i64 (n : Int))).run P w = .ok (.slice (some ⟨w.heap.size, 0, none⟩) n n) (w.alloc (.cells (madeCells z.cells (n * size)) e)) := by
  obtain ⟨i, hi, hz0, hz1, hz2⟩ := info_parts hinfo
  have hb : (i.bytes : Int) * (n : Int) ≤ 281474976710656 := by
    have h : ((bytes * n : Nat) : Int) ≤ 281474976710656 := by omega
    rw [Int.natCast_mul] at h
    rw [hz2]
    exact h
  have := run_make (P := P) w t e i z ht hi hz0 .i64 .i64 n n (by omega) (Int.le_refl _) hb (by omega)
  simp only [Int.toNat_natCast, hz1] at this
  exact this
theorem getElem?_made (z : Array Value) (n j : Nat) (h : j < n) : (madeCells z n)[j]? = some (z[j % z.size]!) := by
  simp [madeCells, h]
def Post2 (A : Act) (W' : World) (B : Act) (V' : World) : Exit → Act → World → Prop
  | .normal, b, w' => (b = A ∧ w' = W') ∨ (b = B ∧ w' = V')
  | _, _, _ => False
theorem Post2.one (A : Act) (W' : World) (B : Act) (V' : World) : Post2 A W' B V' .normal A W' := Or.inl ⟨rfl, rfl⟩
theorem Post2.two (A : Act) (W' : World) (B : Act) (V' : World) : Post2 A W' B V' .normal B V' := Or.inr ⟨rfl, rfl⟩
theorem wp_twice {P : Program} {c : Code} {Q : Exit → Act → World → Prop} {a : Act} {w : World} (h : ∃ A W' B V', c.wp P (Post2 A W' B V') a w ∧ Q .normal A W' ∧ Q .normal B V') : c.wp P Q a w := by
  obtain ⟨A, W', B, V', h1, h2, h3⟩ := h
  refine Code.wp_mono ?_ h1
  intro e b w' h
  cases e <;> first | exact h.elim | (rcases h with ⟨rfl, rfl⟩ | ⟨rfl, rfl⟩ <;> assumption)
/-- An arena's places, as made. -/
abbrev arP (n : Nat) : Obj := .cells (madeCells #[.int .u32 0, .int .i64 0] (n * 2)) 263
abbrev arU (m : Nat) : Obj := .cells (madeCells #[.int .u64 0] m) 257
abbrev arA (s u n wd : Nat) : Obj := .cells #[.int .i64 (wd : Int), .slice (some ⟨s, 0, none⟩) n n, .slice (some ⟨u, 0, none⟩) (n * wd) (n * wd), .int .i32 0, .int .u32 0, .int .u32 0, .int .u32 0, .int .i32 0, .int .i32 0, .int .i32 0, .int .u32 0, .slice none 0 0, .int .i64 0, .int .i64 0, .int .i64 0, .int .i64 0] 214
/-- The world behind New's first statement. -/
structure Made (w : World) (s u n wd : Nat) (W : World) : Prop where
  size : W.heap.size = w.heap.size + 3
  low : Below w.heap.size w W
  hs : s = w.heap.size ∧ u = w.heap.size + 1 ∨ s = w.heap.size + 1 ∧ u = w.heap.size
  a : W.heap[w.heap.size + 2]? = some (arA s u n wd)
  p : W.heap[s]? = some (arP n)
  v : W.heap[u]? = some (arU (n * wd))
theorem heap_alloc_last (w : World) (o : Obj) (k : Nat) (h : k = w.heap.size) : (w.alloc o).heap[k]? = some o := by subst h; exact heap_alloc_new w o
theorem Made.one (w : World) (n wd : Nat) : Made w w.heap.size (w.heap.size + 1) n wd (((w.alloc (arP n)).alloc (arU (n * wd))).alloc (arA w.heap.size (w.heap.size + 1) n wd)).drew := by
  refine ⟨by show (Array.push _ _).size = _; simp, ?_, Or.inl ⟨rfl, rfl⟩, ?_, ?_, ?_⟩
  · exact ((((Below.refl w.heap.size w).alloc (Nat.le_refl _) _).alloc (by simp) _).alloc (by simp; omega) _).drew
  · exact heap_alloc_last _ _ _ (by simp)
  · exact (Below.heap_alloc _ _ _ (by simp; omega)).trans ((Below.heap_alloc _ _ _ (by simp)).trans (heap_alloc_last _ _ _ rfl))
  · exact (Below.heap_alloc _ _ _ (by simp)).trans (heap_alloc_last _ _ _ (by simp))
theorem Made.two (w : World) (n wd : Nat) : Made w (w.heap.size + 1) w.heap.size n wd (((w.alloc (arU (n * wd))).alloc (arP n)).alloc (arA (w.heap.size + 1) w.heap.size n wd)).drew := by
  refine ⟨by show (Array.push _ _).size = _; simp, ?_, Or.inr ⟨rfl, rfl⟩, ?_, ?_, ?_⟩
  · exact ((((Below.refl w.heap.size w).alloc (Nat.le_refl _) _).alloc (by simp) _).alloc (by simp; omega) _).drew
  · exact heap_alloc_last _ _ _ (by simp)
  · exact (Below.heap_alloc _ _ _ (by simp)).trans (heap_alloc_last _ _ _ (by simp))
  · exact (Below.heap_alloc _ _ _ (by simp; omega)).trans ((Below.heap_alloc _ _ _ (by simp)).trans (heap_alloc_last _ _ _ rfl))
/-- A new arena: all is free. -/
def AS.fresh (n wd : Nat) : AS := { n := n, wd := wd, g0 := 0, rc := 0, lk := 0, front := 0, count := n, acc := 0, miss := 0, use := fun _ => false, turn := fun _ => 0, word := fun _ => 0, ring := fun j => (j : Int) + 1 }
theorem cell?_heap {w : World} {k : Nat} {c : Array Value} {t : TypeId} (h : w.heap[k]? = some (.cells c t)) (j : Nat) : w.cell? ⟨k, j, none⟩ = c[j]? := by simp [World.cell?, h]
theorem frozen?_heap {w : World} {k : Nat} {c : Array Value} {t : TypeId} (h : w.heap[k]? = some (.cells c t)) (j : Nat) : w.frozen? ⟨k, j, none⟩ = false := by simp [World.frozen?, h]
theorem Made.holds {w W w' : World} {s u n wd : Nat} (hn : 1 ≤ n ∧ n ≤ 4096) (hw : 1 ≤ wd ∧ wd ≤ 16) (h : Made w s u n wd W) (f : FillS W (w.heap.size + 2) 9 n n w') : Holds w' ⟨w.heap.size + 2, s, u, w.heap.size + 3⟩ (.fresh n wd) ∧ Below w.heap.size w w' := by
  have hsz := h.size
  have hs := h.hs
  have hq := f.que
  have hl := f.low
  have hfr := f.free
  rw [hsz] at hq hl hfr
  have cb : ∀ j, j ≠ 11 → j ≠ 13 → w'.cell? ⟨w.heap.size + 2, j, none⟩ = _ := fun j h1 h2 => (f.far ⟨w.heap.size + 2, j, none⟩ (by simp; omega) (fun e => h1 (congrArg Addr.off e)) (fun e => h2 (congrArg Addr.off e))).trans (cell?_heap h.a j)
  have cs : ∀ j, w'.cell? ⟨s, j, none⟩ = _ := fun j => (f.far ⟨s, j, none⟩ (by simp; omega) (fun e => by have := congrArg Addr.block e; simp at this; omega) (fun e => by have := congrArg Addr.block e; simp at this; omega)).trans (cell?_heap h.p j)
  have cu : ∀ j, w'.cell? ⟨u, j, none⟩ = _ := fun j => (f.far ⟨u, j, none⟩ (by simp; omega) (fun e => by have := congrArg Addr.block e; simp at this; omega) (fun e => by have := congrArg Addr.block e; simp at this; omega)).trans (cell?_heap h.v j)
  refine ⟨⟨cb 0 (by decide) (by decide), cb 1 (by decide) (by decide), cb 2 (by decide) (by decide), cb 3 (by decide) (by decide), cb 5 (by decide) (by decide), cb 6 (by decide) (by decide), cb 7 (by decide) (by decide), cb 9 (by decide) (by decide), hq.ring, hq.front, hq.count, cb 14 (by decide) (by decide), cb 15 (by decide) (by decide), fun i hi => ?_, fun i hi => ?_, fun i hi => ?_, fun i hi => hl i hi, fun g j hg => ?_, ?_, ?_, ?_, ?_, ?_, ?_, ?_, ?_, ?_, ?_, hn, hw, ?_⟩, ?_⟩
  · have hi' : i < n := hi
    rw [cs, getElem?_made _ _ _ (by omega)]
    simp [AS.fresh, bitI]
  · have hi' : i < n := hi
    rw [cs, getElem?_made _ _ _ (by omega)]
    simp [AS.fresh, Nat.add_mod]
  · have hi' : i < n * wd := hi
    rw [cu, getElem?_made _ _ _ (by omega)]
    simp [AS.fresh, Nat.mod_one]
  · rcases hg with rfl | rfl | rfl | rfl
    · exact (f.thaw _ (by simp; omega)).trans (frozen?_heap h.a j)
    · exact (f.thaw _ (by simp; omega)).trans (frozen?_heap h.p j)
    · exact (f.thaw _ (by simp; omega)).trans (frozen?_heap h.v j)
    · exact hfr j
  rotate_right 2
  · have e : w'.heap[s]? = some (arP n) := (f.kp.block s (by omega) (fun e => by omega)).trans h.p
    unfold World.shape?
    rw [e]
    simp [madeCells, AS.fresh]
  rotate_left 1
  all_goals first
    | (have := f.size; show _ < w'.heap.size; simp only []; omega)
    | (show _ ≠ _; simp only []; omega)
    | skip
  exact h.low.trans (f.kp.below (by omega) (fun k hk e => by omega))
end Go.Proofs.YtdpebhdjcgiboaaGreat

namespace Go.Proofs.YtdpebhdjcgiboaaGreat
open Go.ChangeShapes Go.WideShapes Go.ChangeAt Go.RowKit
set_option linter.unusedVariables false

set_option maxRecDepth 100000 in
set_option maxHeartbeats 800000 in
/-- One that New made is not. -/
theorem missing_not (b wd : Nat) (w : World) (h0 : 0 < wd) (h1 : w.cell? ⟨b, 0, none⟩ = some (.int .i64 (wd : Int))) : Calls Tryz.prog 104 #[.pointer (some ⟨b, 0, none⟩)] w fun e w' => e = .returned (.bool false) ∧ w' = w := by
  have hne : ((wd : Int) == 0) = false := by simp; omega
  go_enter Tryz.func104, Tryz.ntmps104
  go_wp2
  go_ret
  exact ⟨rfl, rfl⟩
set_option maxRecDepth 100000 in
set_option maxHeartbeats 800000 in
theorem shape_any (b n wd c : Nat) (sp : Option Addr) (w : World) (h0 : 0 < wd) (h1 : w.cell? ⟨b, 0, none⟩ = some (.int .i64 (wd : Int))) (h2 : w.cell? ⟨b, 1, none⟩ = some (.slice sp n c)) : Calls Tryz.prog 122 #[.pointer (some ⟨b, 0, none⟩)] w fun e w' => e = .returned (.tuple #[.int .i64 (n : Int), .int .i64 (wd : Int)]) ∧ w' = w.drew := by
  go_enter Tryz.func122, Tryz.ntmps122
  go_wp2_with fail
  refine (missing_not b wd w h0 h1).mono ?_
  rintro e w' ⟨rfl, rfl⟩
  go_wp2
  have s1 : w'.drew.cell? ⟨b, 0, none⟩ = some (.int .i64 (wd : Int)) := h1
  have s2 : w'.drew.cell? ⟨b, 1, none⟩ = some (.slice sp n c) := h2
  go_region_held3 (fun w'' => w''.cell? ⟨b, 0, none⟩ = some (.int .i64 (wd : Int)) ∧ w''.cell? ⟨b, 1, none⟩ = some (.slice sp n c)) (first | assumption | exact ⟨s1, s2⟩) (fail)
  go_wp2
  go_ret2
  exact ⟨rfl, rfl⟩
end Go.Proofs.YtdpebhdjcgiboaaGreat

namespace Go.Proofs.YtdpebhdjcgiboaaGreat
open Go.ChangeShapes Go.WideShapes Go.ChangeAt Go.RowKit
set_option linter.unusedVariables false
set_option maxRecDepth 100000
set_option maxHeartbeats 1600000
/-- A row of m words that is handed in: nobody of the arena's. -/
def Given (w : World) (L : Lay) (sp : Option Addr) (m : Nat) (f : Nat → Int) : Prop := ∀ i, i < m → ∃ g o, sp = some ⟨g, o, none⟩ ∧ ¬ L.has g ∧ g < w.heap.size ∧ w.cell? ⟨g, o + i, none⟩ = some (.int .u64 (f i))
theorem Given.keeps {w w' : World} {L : Lay} {sp : Option Addr} {m : Nat} {f : Nat → Int} (h : Given w L sp m f) (k : Keeps L.has w w') : Given w' L sp m f := fun i hi => by
  obtain ⟨g, o, h1, h2, h3, h4⟩ := h i hi
  exact ⟨g, o, h1, h2, Nat.lt_of_lt_of_le h3 k.size, (k.cell (p := ⟨g, o + i, none⟩) h3 h2).trans h4⟩
def valW (m : Nat) (f : Nat → Int) (i : Nat) : Int := if i < m then f i else 0
def layW (old : Nat → Int) (base i : Nat) (val : Nat → Int) : Nat → Int := fun j => if base ≤ j ∧ j < base + i then val (j - base) else old j
theorem layW_step (old : Nat → Int) (base i : Nat) (val : Nat → Int) : upd (layW old base i val) (base + i) (val i) = layW old base (i + 1) val := by
  funext j
  unfold upd layW
  by_cases h : j = base + i
  · subst h; simp
  · rw [if_neg h]
    by_cases h2 : base ≤ j ∧ j < base + i
    · rw [if_pos h2, if_pos (by omega)]
    · rw [if_neg h2, if_neg (by omega)]
theorem layW_zero (old : Nat → Int) (base : Nat) (val : Nat → Int) : layW old base 0 val = old := by
  funext j; unfold layW; rw [if_neg (by omega)]
/-- The world behind a boxed parameter that has no cells. -/
abbrev boxW (w : World) : World := w.alloc (.cells #[] 149)
def AS.laid (S : AS) (k : Nat) (val : Nat → Int) : AS := { S with word := layW S.word (k * S.wd) S.wd val, turn := upd S.turn k (wrap64 (S.turn k + 1)), use := upd S.use k true }
theorem place_cells : Tryz.prog.cellsOf 263 = 2 := by kernel_rfl
theorem place_bytes : Tryz.prog.bytesOf 263 = 16 := by kernel_rfl
theorem place_b0 : byteOfCell Tryz.prog Tryz.prog.depth 263 0 = some 0 := by kernel_rfl
theorem place_b1 : byteOfCell Tryz.prog Tryz.prog.depth 263 1 = some 8 := by kernel_rfl
theorem part_pay (L : Lay) (S : AS) (w : World) (k : Nat) (h : Holds w L S) : Sem.run Tryz.prog (partAt ⟨L.s, k * 2, none⟩ 1 4) w = .ok ⟨L.s, k * 2 + 1, some (k * 16 + 4)⟩ w := by
  have e1 : k * 2 % 2 = 0 := by omega
  have e2 : (k * 2 + 1) % 2 = 1 := by omega
  have e3 : k * 2 / 2 = k := by omega
  have e4 : (k * 2 + 1) / 2 = k := by omega
  simp [partAt, byteOf, noView, viewAt, h.sh, place_cells, place_bytes, place_b0, place_b1, e1, e2, e3, e4, Result.andThen]
theorem lay_any (L : Lay) (S : AS) (w : World) (k : Nat) (sp : Option Addr) (m c : Nat) (f : Nat → Int) (hk : k < S.n) (hm : m ≤ S.wd) (h : Holds w L S) (hg : Given w L sp m f) :
    Calls Tryz.prog 111 #[.pointer (some ⟨L.b, 0, none⟩), .int .i64 ((k : Int) + 1), .agg #[], .slice sp m c] w fun e w' => e = .returned (.tuple #[]) ∧ Holds w' L (S.laid k (valW m f)) ∧ Keeps L.has w w' := by
  have hz := h.hn.2
  have hwd := h.hw.2
  have hwl := h.hw.1
  have c1 := h.c1
  have H : Hid (Holds (boxW w) L S) := h.alloc _
  have HG : Hid (Given w L sp m f) := hg
  have hbx : (boxW w).heap.size = w.heap.size + 1 := by simp
  have hb1 : (boxW w).heap[w.heap.size]? = some (.cells #[] 149) := heap_alloc_last _ _ _ rfl
  clear h hg
  go_enter Tryz.func111, Tryz.ntmps111
  go_wp2_with fail
  refine (cellsOf_any L S (boxW w) k hk H.out).mono ?_
  rintro e w' ⟨rfl, rfl⟩
  have hN : k * S.wd + S.wd ≤ S.n * S.wd := by rw [← Nat.succ_mul]; exact Nat.mul_le_mul_right _ hk
  go_wp2_with fail
  go_loopw [17] (fun i wr => ∃ t : Nat, t ≤ S.wd ∧ i = .int .i64 t ∧ Holds wr L { S with word := layW S.word (k * S.wd) t (valW m f) } ∧ Keeps L.has w wr) (fun i _ => S.wd - (intOf i).toNat)
  case atStart => exact ⟨0, by omega, rfl, by rw [layW_zero]; exact H.out.drew, ((Keeps.refl _ _).alloc _).drew⟩
  case round =>
    obtain ⟨t, ht, rfl, hS, hK⟩ := hrel
    have HS : Hid (Holds wr L { S with word := layW S.word (k * S.wd) t (valW m f) } ∧ Keeps L.has w wr) := ⟨hS, hK⟩
    clear hS hK H
    by_cases h4 : t < S.wd
    · have HX : Hid (∀ W, W = wr → Calls Tryz.prog 149 #[.pointer (some ⟨L.u, k * S.wd + t, none⟩), .int .u64 (valW m f t)] W fun e w' => e = .returned (.tuple #[]) ∧ Hid (Holds w' L { S with word := layW S.word (k * S.wd) (t + 1) (valW m f) } ∧ Keeps L.has w w')) := by
        rintro W rfl
        refine (u64_store _ _ _ _ (HS.out.1.wo (k * S.wd + t) (by show _ < S.n * S.wd; omega)) (HS.out.1.fz _ _ (Or.inr (Or.inr (Or.inl rfl))))).mono ?_
        rintro e w' ⟨rfl, rfl⟩
        have := HS.out.1.setWord (k * S.wd + t) (valW m f t)
        simp only [layW_step] at this
        exact ⟨rfl, this, HS.out.2.setCell (Or.inr (Or.inr (Or.inl rfl))) _⟩
      clear hN
      by_cases h5 : t < m
      · obtain ⟨g, o, rfl, hg1, hg2, hg3⟩ := (HG.out.keeps HS.out.2) t h5
        have hv : valW m f t = f t := if_pos h5
        rw [hv] at HX
        clear HS HG hg1 hg2 hv
        go_wp2_with fail
        refine (HX.out _ rfl).mono ?_
        rintro e w' ⟨rfl, HR2⟩
        clear HX hg3
        go_wp2
        go_roundw
        case rel => exact ⟨t + 1, by omega, by go_num, HR2.out⟩
        case measure => simp [intOf]; omega
      · have hv : valW m f t = 0 := if_neg h5
        rw [hv] at HX
        clear HS HG hv
        go_wp2_with fail
        refine (HX.out _ rfl).mono ?_
        rintro e w' ⟨rfl, HR2⟩
        clear HX
        go_wp2
        go_roundw
        case rel => exact ⟨t + 1, by omega, by go_num, HR2.out⟩
        case measure => simp [intOf]; omega
    · have e4 : t = S.wd := by omega
      subst e4
      have d1 := HS.out.1.c1
      have d3 := HS.out.1.tn k hk
      have d4 := HS.out.1.us k hk
      have z : ∀ j, wr.frozen? ⟨L.s, j, none⟩ = false := fun j => HS.out.1.fz _ _ (Or.inr (Or.inl rfl))
      have z3 := z (k * 2 + 1)
      have z4 := z (k * 2)
      simp only [] at d1 d3 d4
      have hpt := part_pay L _ wr k HS.out.1
      clear HG hN z
      have HU : Hid (∀ W, W = wr.setCell ⟨L.s, k * 2 + 1, none⟩ (.int .i64 (wrap64 (S.turn k + 1))) → Calls Tryz.prog 150 #[.pointer (some ⟨L.s, k * 2, none⟩), .bool true] W fun e w' => e = .returned (.tuple #[]) ∧ Hid (Holds w' L (S.laid k (valW m f)) ∧ Keeps L.has w w')) := by
        rintro W rfl
        have HT := HS.out.1.setTurn k (wrap64 (S.turn k + 1))
        refine (bool_store _ _ true _ (HT.us k hk) (HT.fz _ _ (Or.inr (Or.inl rfl)))).mono ?_
        rintro e w' ⟨rfl, rfl⟩
        exact ⟨rfl, (HT.setUse k true).drew, ((HS.out.2.setCell (Or.inr (Or.inl rfl)) _).setCell (Or.inr (Or.inl rfl)) _).drew⟩
      clear HS
      go_wp2_with fail
      refine (HU.out _ rfl).mono ?_
      rintro e w' ⟨rfl, HR⟩
      clear HU
      go_wp2
      exact ⟨rfl, .tuple #[], by simp [results, Tryz.results111], rfl, HR.out⟩
end Go.Proofs.YtdpebhdjcgiboaaGreat
