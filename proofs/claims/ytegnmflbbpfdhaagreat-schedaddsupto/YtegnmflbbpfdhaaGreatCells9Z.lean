import Derived.Test.YtegnmflbbpfdhaaGreatCells8Z
import Derived.Test.YtegnmflbbpfdhaaGreatCells6Z
import Derived.Test.YtegnmflbbpfdhaaGreatCells3Z
namespace Go.Proofs.YtegnmflbbpfdhaaGreat
open Go.ChangeShapes Go.WideShapes Go.ChangeAt Go.RowKit
set_option linter.unusedVariables false
set_option maxRecDepth 100000
set_option maxHeartbeats 1600000
/-- A row of m words that is handed in: nobody of the arena's. -/
def Given (w : World) (L : Lay) (sp : Option Addr) (m : Nat) (f : Nat → Int) : Prop := ∀ i, i < m → ∃ g o, sp = some ⟨g, o, none⟩ ∧ ¬ L.has g ∧ g < w.heap.size ∧ w.cell? ⟨g, o + i, none⟩ = some (.int .u64 (f i))
theorem Given.keeps {w w' : World} {L : Lay} {sp : Option Addr} {m : Nat} {f : Nat → Int} (h : Given w L sp m f) (k : Keeps L.has w w') : Given w' L sp m f := fun i hi => by
  obtain ⟨g, o, h1, h2, h3, h4⟩ := h i hi
  exact ⟨g, o, h1, h2, Nat.lt_of_lt_of_le h3 k.size, (k.cell (p := ⟨g, o + i, none⟩) h3 h2).trans h4⟩
def valW (m : Nat) (f : Nat → Int) (i : Nat) : Int := if i < m then f i else 0
def layW (old : Nat → Int) (base i : Nat) (val : Nat → Int) : Nat → Int := fun j => if base ≤ j ∧ j < base + i then val (j - base) else old j
theorem layW_step (old : Nat → Int) (base i : Nat) (val : Nat → Int) : upd (layW old base i val) (base + i) (val i) = layW old base (i + 1) val := by
  funext j
  unfold upd layW
  by_cases h : j = base + i
  · subst h; simp
  · rw [if_neg h]
    by_cases h2 : base ≤ j ∧ j < base + i
    · rw [if_pos h2, if_pos (by omega)]
    · rw [if_neg h2, if_neg (by omega)]
theorem layW_zero (old : Nat → Int) (base : Nat) (val : Nat → Int) : layW old base 0 val = old := by
  funext j; unfold layW; rw [if_neg (by omega)]
/-- The world behind a boxed parameter that has no cells. -/
abbrev boxW (w : World) : World := w.alloc (.cells #[] 82)
def AS.laid (S : AS) (k : Nat) (val : Nat → Int) : AS := { S with word := layW S.word (k * S.wd) S.wd val, turn := upd S.turn k (wrap64 (S.turn k + 1)), use := upd S.use k true }
theorem place_cells : Tryz.prog.cellsOf 191 = 2 := by kernel_rfl
theorem place_bytes : Tryz.prog.bytesOf 191 = 16 := by kernel_rfl
theorem place_b0 : byteOfCell Tryz.prog Tryz.prog.depth 191 0 = some 0 := by kernel_rfl
theorem place_b1 : byteOfCell Tryz.prog Tryz.prog.depth 191 1 = some 8 := by kernel_rfl
theorem part_pay (L : Lay) (S : AS) (w : World) (k : Nat) (h : Holds w L S) : Sem.run Tryz.prog (partAt ⟨L.s, k * 2, none⟩ 1 4) w = .ok ⟨L.s, k * 2 + 1, some (k * 16 + 4)⟩ w := by
  have e1 : k * 2 % 2 = 0 := by omega
  have e2 : (k * 2 + 1) % 2 = 1 := by omega
  have e3 : k * 2 / 2 = k := by omega
  have e4 : (k * 2 + 1) / 2 = k := by omega
  simp [partAt, byteOf, noView, viewAt, h.sh, place_cells, place_bytes, place_b0, place_b1, e1, e2, e3, e4, Result.andThen]
theorem lay_any (L : Lay) (S : AS) (w : World) (k : Nat) (sp : Option Addr) (m c : Nat) (f : Nat → Int) (hk : k < S.n) (hm : m ≤ S.wd) (h : Holds w L S) (hg : Given w L sp m f) :
    Calls Tryz.prog 55 #[.pointer (some ⟨L.b, 0, none⟩), .int .i64 ((k : Int) + 1), .agg #[], .slice sp m c] w fun e w' => e = .returned (.tuple #[]) ∧ Holds w' L (S.laid k (valW m f)) ∧ Keeps L.has w w' := by
  have hz := h.hn.2
  have hwd := h.hw.2
  have hwl := h.hw.1
  have c1 := h.c1
  have H : Hid (Holds (boxW w) L S) := h.alloc _
  have HG : Hid (Given w L sp m f) := hg
  have hbx : (boxW w).heap.size = w.heap.size + 1 := by simp
  have hb1 : (boxW w).heap[w.heap.size]? = some (.cells #[] 82) := heap_alloc_last _ _ _ rfl
  clear h hg
  go_enter Tryz.func55, Tryz.ntmps55
  go_wp2_with fail
  refine (cellsOf_any L S (boxW w) k hk H.out).mono ?_
  rintro e w' ⟨rfl, rfl⟩
  have hN : k * S.wd + S.wd ≤ S.n * S.wd := by rw [← Nat.succ_mul]; exact Nat.mul_le_mul_right _ hk
  go_wp2_with fail
  go_loopw [17] (fun i wr => ∃ t : Nat, t ≤ S.wd ∧ i = .int .i64 t ∧ Holds wr L { S with word := layW S.word (k * S.wd) t (valW m f) } ∧ Keeps L.has w wr) (fun i _ => S.wd - (intOf i).toNat)
  case atStart => exact ⟨0, by omega, rfl, by rw [layW_zero]; exact H.out.drew, ((Keeps.refl _ _).alloc _).drew⟩
  case round =>
    obtain ⟨t, ht, rfl, hS, hK⟩ := hrel
    have HS : Hid (Holds wr L { S with word := layW S.word (k * S.wd) t (valW m f) } ∧ Keeps L.has w wr) := ⟨hS, hK⟩
    clear hS hK H
    by_cases h4 : t < S.wd
    · have HX : Hid (∀ W, W = wr → Calls Tryz.prog 84 #[.pointer (some ⟨L.u, k * S.wd + t, none⟩), .int .u64 (valW m f t)] W fun e w' => e = .returned (.tuple #[]) ∧ Hid (Holds w' L { S with word := layW S.word (k * S.wd) (t + 1) (valW m f) } ∧ Keeps L.has w w')) := by
        rintro W rfl
        refine (u64_store _ _ _ _ (HS.out.1.wo (k * S.wd + t) (by show _ < S.n * S.wd; omega)) (HS.out.1.fz _ _ (Or.inr (Or.inr (Or.inl rfl))))).mono ?_
        rintro e w' ⟨rfl, rfl⟩
        have := HS.out.1.setWord (k * S.wd + t) (valW m f t)
        simp only [layW_step] at this
        exact ⟨rfl, this, HS.out.2.setCell (Or.inr (Or.inr (Or.inl rfl))) _⟩
      clear hN
      by_cases h5 : t < m
      · obtain ⟨g, o, rfl, hg1, hg2, hg3⟩ := (HG.out.keeps HS.out.2) t h5
        have hv : valW m f t = f t := if_pos h5
        rw [hv] at HX
        clear HS HG hg1 hg2 hv
        go_wp2_with fail
        refine (HX.out _ rfl).mono ?_
        rintro e w' ⟨rfl, HR2⟩
        clear HX hg3
        go_wp2
        go_roundw
        case rel => exact ⟨t + 1, by omega, by go_num, HR2.out⟩
        case measure => simp [intOf]; omega
      · have hv : valW m f t = 0 := if_neg h5
        rw [hv] at HX
        clear HS HG hv
        go_wp2_with fail
        refine (HX.out _ rfl).mono ?_
        rintro e w' ⟨rfl, HR2⟩
        clear HX
        go_wp2
        go_roundw
        case rel => exact ⟨t + 1, by omega, by go_num, HR2.out⟩
        case measure => simp [intOf]; omega
    · have e4 : t = S.wd := by omega
      subst e4
      have d1 := HS.out.1.c1
      have d3 := HS.out.1.tn k hk
      have d4 := HS.out.1.us k hk
      have z : ∀ j, wr.frozen? ⟨L.s, j, none⟩ = false := fun j => HS.out.1.fz _ _ (Or.inr (Or.inl rfl))
      have z3 := z (k * 2 + 1)
      have z4 := z (k * 2)
      simp only [] at d1 d3 d4
      have hpt := part_pay L _ wr k HS.out.1
      clear HG hN z
      have HU : Hid (∀ W, W = wr.setCell ⟨L.s, k * 2 + 1, none⟩ (.int .i64 (wrap64 (S.turn k + 1))) → Calls Tryz.prog 85 #[.pointer (some ⟨L.s, k * 2, none⟩), .bool true] W fun e w' => e = .returned (.tuple #[]) ∧ Hid (Holds w' L (S.laid k (valW m f)) ∧ Keeps L.has w w')) := by
        rintro W rfl
        have HT := HS.out.1.setTurn k (wrap64 (S.turn k + 1))
        refine (bool_store _ _ true _ (HT.us k hk) (HT.fz _ _ (Or.inr (Or.inl rfl)))).mono ?_
        rintro e w' ⟨rfl, rfl⟩
        exact ⟨rfl, (HT.setUse k true).drew, ((HS.out.2.setCell (Or.inr (Or.inl rfl)) _).setCell (Or.inr (Or.inl rfl)) _).drew⟩
      clear HS
      go_wp2_with fail
      refine (HU.out _ rfl).mono ?_
      rintro e w' ⟨rfl, HR⟩
      clear HU
      go_wp2
      exact ⟨rfl, .tuple #[], by simp [results, Tryz.results55], rfl, HR.out⟩
end Go.Proofs.YtegnmflbbpfdhaaGreat
