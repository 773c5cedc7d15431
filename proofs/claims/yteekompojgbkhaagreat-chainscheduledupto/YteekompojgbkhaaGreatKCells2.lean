import Derived.Test.YteekompojgbkhaaGreatKCells1
import Derived.Deep.OwnRows
namespace Go.Proofs.YteekompojgbkhaaGreat
open Go.ChangeShapes Go.WideShapes Go.ChangeAt Go.RowKit
set_option linter.unusedVariables false

/-- A queue that is being filled: k of its n places hold 1 to k. -/
structure FillS (w : World) (b o n k : Nat) (W : World) : Prop where
  que : Que W b o w.heap.size n 0 k
  low : ∀ j, j < k → W.cell? ⟨w.heap.size, j, none⟩ = some (.int .i64 ((j : Int) + 1))
  high : ∀ j, k ≤ j → j < n → W.cell? ⟨w.heap.size, j, none⟩ = some (.int .i64 0)
  free : ∀ j, W.frozen? ⟨w.heap.size, j, none⟩ = false
  far : ∀ p : Addr, p.block < w.heap.size → p ≠ ⟨b, o + 2, none⟩ → p ≠ ⟨b, o + 4, none⟩ → W.cell? p = w.cell? p
  thaw : ∀ p : Addr, p.block < w.heap.size → W.frozen? p = w.frozen? p
  size : W.heap.size = w.heap.size + 1
  kp : Keeps (fun k => k = b) w W
theorem FillS.put {w W : World} {b o n k : Nat} (h : FillS w b o n k W) (hk : k < n) (hb : b < w.heap.size) : FillS w b o n (k + 1) ((W.setCell ⟨w.heap.size, k, none⟩ (.int .i64 ((k : Int) + 1))).setCell ⟨b, o + 4, none⟩ (.int .i64 ((k : Int) + 1))).drew := by
  have hne : w.heap.size ≠ b := by omega
  have e1 : ∀ j, ((W.setCell ⟨w.heap.size, k, none⟩ (.int .i64 ((k : Int) + 1))).setCell ⟨b, o + 4, none⟩ (.int .i64 ((k : Int) + 1))).drew.cell? ⟨w.heap.size, j, none⟩ = (W.setCell ⟨w.heap.size, k, none⟩ (.int .i64 ((k : Int) + 1))).cell? ⟨w.heap.size, j, none⟩ := fun j => World.cell?_setCell_other _ ⟨b, o + 4, none⟩ ⟨w.heap.size, j, none⟩ _ (fun e => hne (congrArg Addr.block e).symm)
  have e2 : ∀ p : Addr, p.block ≠ w.heap.size → p ≠ ⟨b, o + 4, none⟩ → ((W.setCell ⟨w.heap.size, k, none⟩ (.int .i64 ((k : Int) + 1))).setCell ⟨b, o + 4, none⟩ (.int .i64 ((k : Int) + 1))).drew.cell? p = W.cell? p := fun p hp hq => (World.cell?_setCell_other _ ⟨b, o + 4, none⟩ p _ (fun e => hq e.symm)).trans (World.cell?_setCell_other _ ⟨w.heap.size, k, none⟩ p _ (fun e => hp (congrArg Addr.block e).symm))
  have e3 : (W.setCell ⟨w.heap.size, k, none⟩ (.int .i64 ((k : Int) + 1))).cell? ⟨b, o + 4, none⟩ = some (.int .i64 (k : Int)) := (World.cell?_setCell_other _ ⟨w.heap.size, k, none⟩ ⟨b, o + 4, none⟩ _ (fun e => hne (congrArg Addr.block e))).trans h.que.count
  refine ⟨⟨(e2 ⟨b, o + 2, none⟩ (fun e => hne e.symm) (fun e => ?_)).trans h.que.ring, (e2 ⟨b, o + 3, none⟩ (fun e => hne e.symm) (fun e => ?_)).trans h.que.front, ?_⟩, fun j hj => ?_, fun j hj hn => ?_, fun j => ?_, fun p hp h1 h2 => (e2 p (by omega) h2).trans (h.far p hp h1 h2), fun p hp => ?_, ?_, ((h.kp.setCellNew (Nat.le_refl _) _).setCell rfl _).drew⟩
  · have := congrArg Addr.off e; simp at this
  · have := congrArg Addr.off e; simp at this
  · have := World.cell?_setCell_same _ ⟨b, o + 4, none⟩ (.int .i64 ((k : Int) + 1)) e3
    push_cast
    exact this
  · rw [e1]
    by_cases hjk : j = k
    · subst hjk
      exact World.cell?_setCell_same _ _ _ (h.high j (Nat.le_refl _) hk)
    · rw [World.cell?_setCell_other _ _ _ _ (fun e => hjk (congrArg Addr.off e).symm)]
      exact h.low j (by omega)
  · rw [e1, World.cell?_setCell_other _ _ _ _ (fun e => by have := congrArg Addr.off e; simp at this; omega)]
    exact h.high j (by omega) hn
  · simpa using h.free j
  · simpa using h.thaw p hp
  · simpa using h.size
theorem infoI : (Tryz.prog.info? 3).map (fun i => (i.zero, i.size, i.bytes)) = some (some (.int .i64 0), 1, 8) := by kernel_rfl
theorem fill_start (w : World) (b o n : Nat) (hb : b < w.heap.size) (h1 : w.cell? ⟨b, o + 2, none⟩ = some (.slice none 0 0)) (h2 : w.cell? ⟨b, o + 3, none⟩ = some (.int .i64 0)) (h3 : w.cell? ⟨b, o + 4, none⟩ = some (.int .i64 0)) :
    FillS w b o n 0 ((w.setCell ⟨b, o + 2, none⟩ (.slice (some ⟨w.heap.size, 0, none⟩) n n)).alloc (.cells (madeCells #[.int .i64 0] n) 3)) := by
  have hs : (w.setCell ⟨b, o + 2, none⟩ (.slice (some ⟨w.heap.size, 0, none⟩) n n)).heap.size = w.heap.size := by simp
  have hB := (Below.refl (w.setCell ⟨b, o + 2, none⟩ (.slice (some ⟨w.heap.size, 0, none⟩) n n)).heap.size (w.setCell ⟨b, o + 2, none⟩ (.slice (some ⟨w.heap.size, 0, none⟩) n n))).alloc (Nat.le_refl _) (.cells (madeCells #[.int .i64 0] n) 3)
  have e1 : ∀ p : Addr, p.block < w.heap.size → ((w.setCell ⟨b, o + 2, none⟩ (.slice (some ⟨w.heap.size, 0, none⟩) n n)).alloc (.cells (madeCells #[.int .i64 0] n) 3)).cell? p = (w.setCell ⟨b, o + 2, none⟩ (.slice (some ⟨w.heap.size, 0, none⟩) n n)).cell? p := fun p hp => hB.cell (p := p) (by omega)
  have e2 : ∀ p : Addr, p ≠ ⟨b, o + 2, none⟩ → (w.setCell ⟨b, o + 2, none⟩ (.slice (some ⟨w.heap.size, 0, none⟩) n n)).cell? p = w.cell? p := fun p hp => World.cell?_setCell_other _ ⟨b, o + 2, none⟩ p _ (fun e => hp e.symm)
  have e3 : ∀ p : Addr, p.block < w.heap.size → ((w.setCell ⟨b, o + 2, none⟩ (.slice (some ⟨w.heap.size, 0, none⟩) n n)).alloc (.cells (madeCells #[.int .i64 0] n) 3)).frozen? p = (w.setCell ⟨b, o + 2, none⟩ (.slice (some ⟨w.heap.size, 0, none⟩) n n)).frozen? p := fun p hp => hB.frozen (p := p) (by omega)
  refine ⟨⟨?_, ?_, ?_⟩, fun j hj => by omega, fun j _ hn => ?_, fun j => ?_, fun p hp hq _ => (e1 p hp).trans (e2 p hq), fun p hp => ?_, ?_, ((Keeps.refl (fun k => k = b) w).setCell (p := ⟨b, o + 2, none⟩) rfl _).alloc _⟩
  · exact (e1 ⟨b, o + 2, none⟩ hb).trans (World.cell?_setCell_same _ _ _ h1)
  · exact ((e1 ⟨b, o + 3, none⟩ hb).trans (e2 _ (fun e => by have := congrArg Addr.off e; simp at this))).trans h2
  · exact ((e1 ⟨b, o + 4, none⟩ hb).trans (e2 _ (fun e => by have := congrArg Addr.off e; simp at this))).trans h3
  · rw [World.cell?_alloc_at _ _ _ _ hs.symm, ← Array.getElem?_toList, toList_madeCells_one, List.getElem?_replicate, if_pos hn]
  · rw [World.frozen?_alloc_at _ _ _ _ hs.symm]
  · rw [e3 p hp]; simp
  · show (Array.push _ _).size = _
    rw [Array.size_push, hs]
set_option maxRecDepth 100000 in
set_option maxHeartbeats 1600000 in
theorem fill_any (b o n : Nat) (w : World) (hb : b < w.heap.size) (hn : 0 < n) (hz : n ≤ 1099511627776) (h1 : w.cell? ⟨b, o + 2, none⟩ = some (.slice none 0 0)) (h2 : w.cell? ⟨b, o + 3, none⟩ = some (.int .i64 0)) (h3 : w.cell? ⟨b, o + 4, none⟩ = some (.int .i64 0)) (z1 : w.frozen? ⟨b, o + 2, none⟩ = false) (z2 : w.frozen? ⟨b, o + 4, none⟩ = false) :
    Calls Tryz.prog 57 #[.pointer (some ⟨b, o, none⟩), .int .i64 (n : Int)] w fun e w' => e = .returned (.tuple #[]) ∧ FillS w b o n n w' := by
  have hmk := run_make_row' (P := Tryz.prog) 31 3 (.int .i64 0) 8 Tryz.underlying31 infoI rfl .i64 .i64 n (by omega) (by omega) w
  have HS : Hid (FillS w b o n 0 _) := fill_start w b o n hb h1 h2 h3
  have t1 : (w.alloc (.cells (madeCells #[.int .i64 0] n) 3)).cell? ⟨b, o + 2, none⟩ = some (.slice none 0 0) := (World.cell?_alloc_past _ _ _ hb).trans h1
  have t2 : (w.alloc (.cells (madeCells #[.int .i64 0] n) 3)).frozen? ⟨b, o + 2, none⟩ = false := (World.frozen?_alloc_past _ _ _ hb).trans z1
  go_enter Tryz.func57, Tryz.ntmps57
  go_wp2
  clear t1 t2 hmk
  go_loopw [11] (fun i wr => ∃ k : Nat, k ≤ n ∧ i = .int .i64 k ∧ FillS w b o n k wr) (fun i _ => n - (intOf i).toNat)
  case atStart => exact ⟨0, by omega, rfl, HS.out⟩
  case round =>
    obtain ⟨k, hk, rfl, hS⟩ := hrel
    have HR : Hid (FillS w b o n k wr) := hS
    clear hS HS
    by_cases h4 : k < n
    · have HX : Hid (∀ W, W = wr → Calls Tryz.prog 107 #[.pointer (some ⟨b, o, none⟩), .int .i64 ((k : Int) + 1)] W fun e w' => e = .returned (.tuple #[]) ∧ Hid (FillS w b o n (k + 1) w')) := by
        rintro W rfl
        refine (put_any b o w.heap.size n 0 k k ((k : Int) + 1) 0 W HR.out.que hn (by omega) hz (by rw [Nat.zero_add, Nat.mod_eq_of_lt h4]) (HR.out.high k (Nat.le_refl _) h4) (HR.out.free k) ((HR.out.thaw ⟨b, o + 4, none⟩ hb).trans z2) (by omega)).mono ?_
        rintro e w' ⟨rfl, rfl⟩
        exact ⟨rfl, HR.out.put h4 hb⟩
      go_wp2_with fail
      refine (HX.out _ rfl).mono ?_
      rintro e w' ⟨rfl, HR2⟩
      clear HX HR
      go_wp2
      go_roundw
      case rel => exact ⟨k + 1, by omega, by go_num, HR2.out⟩
      case measure => simp [intOf]; omega
    · have e4 : k = n := by omega
      subst e4
      go_wp2
      exact ⟨rfl, .tuple #[], by simp [results, Tryz.results57], rfl, HR.out⟩
end Go.Proofs.YteekompojgbkhaaGreat
