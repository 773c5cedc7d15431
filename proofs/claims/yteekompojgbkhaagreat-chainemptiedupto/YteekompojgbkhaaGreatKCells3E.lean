import Derived.Test.YteekompojgbkhaaGreatKCells5E
import Derived.Test.YteekompojgbkhaaGreatKCells2
namespace Go.Proofs.YteekompojgbkhaaGreat
open Go.ChangeShapes Go.WideShapes Go.ChangeAt Go.RowKit
set_option linter.unusedVariables false
theorem infoU : (Tryz.prog.info? 148).map (fun i => (i.zero, i.size, i.bytes)) = some (some (.agg #[.int .u64 0]), 1, 8) := by kernel_rfl
theorem run_make_any {P : Program} (t e : TypeId) (z : Value) (size bytes : Nat) (ht : P.underlying t = some (.slice e)) (hinfo : (P.info? e).map (fun i => (i.zero, i.size, i.bytes)) = some (some z, size, bytes)) (n : Nat) (hbytes : bytes * n ≤ 281474976710656) (h63 : n ≤ 9223372036854775807) (w : World) :
    (Instr.makeSlice t (.int .i64 (n : Int)) (.int .i64 (n : Int))).run P w = .ok (.slice (some ⟨w.heap.size, 0, none⟩) n n) (w.alloc (.cells (madeCells z.cells (n * size)) e)) := by
  obtain ⟨i, hi, hz0, hz1, hz2⟩ := info_parts hinfo
  have hb : (i.bytes : Int) * (n : Int) ≤ 281474976710656 := by
    have h : ((bytes * n : Nat) : Int) ≤ 281474976710656 := by omega
    rw [Int.natCast_mul] at h
    rw [hz2]
    exact h
  have := run_make (P := P) w t e i z ht hi hz0 .i64 .i64 n n (by omega) (Int.le_refl _) hb (by omega)
  simp only [Int.toNat_natCast, hz1] at this
  exact this
theorem getElem?_made (z : Array Value) (n j : Nat) (h : j < n) : (madeCells z n)[j]? = some (z[j % z.size]!) := by
  simp [madeCells, h]
def Post2 (A : Act) (W' : World) (B : Act) (V' : World) : Exit → Act → World → Prop
  | .normal, b, w' => (b = A ∧ w' = W') ∨ (b = B ∧ w' = V')
  | _, _, _ => False
theorem Post2.one (A : Act) (W' : World) (B : Act) (V' : World) : Post2 A W' B V' .normal A W' := Or.inl ⟨rfl, rfl⟩
theorem Post2.two (A : Act) (W' : World) (B : Act) (V' : World) : Post2 A W' B V' .normal B V' := Or.inr ⟨rfl, rfl⟩
theorem wp_twice {P : Program} {c : Code} {Q : Exit → Act → World → Prop} {a : Act} {w : World} (h : ∃ A W' B V', c.wp P (Post2 A W' B V') a w ∧ Q .normal A W' ∧ Q .normal B V') : c.wp P Q a w := by
  obtain ⟨A, W', B, V', h1, h2, h3⟩ := h
  refine Code.wp_mono ?_ h1
  intro e b w' h
  cases e <;> first | exact h.elim | (rcases h with ⟨rfl, rfl⟩ | ⟨rfl, rfl⟩ <;> assumption)
/-- An arena's places, as made. -/
abbrev arP (n : Nat) : Obj := .cells (madeCells #[.int .u32 0, .string ⟨#[]⟩, .string ⟨#[]⟩, .int .i64 0, .int .i64 0] (n * 5)) 215
abbrev arU (m : Nat) : Obj := .cells (madeCells #[.int .u64 0] m) 148
abbrev arA (s u n wd : Nat) : Obj := .cells #[.int .i64 (wd : Int), .slice (some ⟨s, 0, none⟩) n n, .slice (some ⟨u, 0, none⟩) (n * wd) (n * wd), .int .i32 0, .int .u32 0, .int .u32 0, .int .u32 0, .int .i32 0, .int .i32 0, .int .i32 0, .int .u32 0, .slice none 0 0, .int .i64 0, .int .i64 0, .int .i64 0, .int .i64 0] 141
/-- The world behind New's first statement. -/
structure Made (w : World) (s u n wd : Nat) (W : World) : Prop where
  size : W.heap.size = w.heap.size + 3
  low : Below w.heap.size w W
  hs : s = w.heap.size ∧ u = w.heap.size + 1 ∨ s = w.heap.size + 1 ∧ u = w.heap.size
  a : W.heap[w.heap.size + 2]? = some (arA s u n wd)
  p : W.heap[s]? = some (arP n)
  v : W.heap[u]? = some (arU (n * wd))
theorem heap_alloc_last (w : World) (o : Obj) (k : Nat) (h : k = w.heap.size) : (w.alloc o).heap[k]? = some o := by subst h; exact heap_alloc_new w o
theorem Made.one (w : World) (n wd : Nat) : Made w w.heap.size (w.heap.size + 1) n wd (((w.alloc (arP n)).alloc (arU (n * wd))).alloc (arA w.heap.size (w.heap.size + 1) n wd)).drew := by
  refine ⟨by show (Array.push _ _).size = _; simp, ?_, Or.inl ⟨rfl, rfl⟩, ?_, ?_, ?_⟩
  · exact ((((Below.refl w.heap.size w).alloc (Nat.le_refl _) _).alloc (by simp) _).alloc (by simp; omega) _).drew
  · exact heap_alloc_last _ _ _ (by simp)
  · exact (Below.heap_alloc _ _ _ (by simp; omega)).trans ((Below.heap_alloc _ _ _ (by simp)).trans (heap_alloc_last _ _ _ rfl))
  · exact (Below.heap_alloc _ _ _ (by simp)).trans (heap_alloc_last _ _ _ (by simp))
theorem Made.two (w : World) (n wd : Nat) : Made w (w.heap.size + 1) w.heap.size n wd (((w.alloc (arU (n * wd))).alloc (arP n)).alloc (arA (w.heap.size + 1) w.heap.size n wd)).drew := by
  refine ⟨by show (Array.push _ _).size = _; simp, ?_, Or.inr ⟨rfl, rfl⟩, ?_, ?_, ?_⟩
  · exact ((((Below.refl w.heap.size w).alloc (Nat.le_refl _) _).alloc (by simp) _).alloc (by simp; omega) _).drew
  · exact heap_alloc_last _ _ _ (by simp)
  · exact (Below.heap_alloc _ _ _ (by simp)).trans (heap_alloc_last _ _ _ (by simp))
  · exact (Below.heap_alloc _ _ _ (by simp; omega)).trans ((Below.heap_alloc _ _ _ (by simp)).trans (heap_alloc_last _ _ _ rfl))
/-- A new arena: all is free. -/
def AS.fresh (n wd : Nat) : AS := { n := n, wd := wd, g0 := 0, rc := 0, lk := 0, front := 0, count := n, acc := 0, miss := 0, use := fun _ => false, pay := fun _ => Ent.none, turn := fun _ => 0, word := fun _ => 0, ring := fun j => (j : Int) + 1 }
theorem cell?_heap {w : World} {k : Nat} {c : Array Value} {t : TypeId} (h : w.heap[k]? = some (.cells c t)) (j : Nat) : w.cell? ⟨k, j, none⟩ = c[j]? := by simp [World.cell?, h]
theorem frozen?_heap {w : World} {k : Nat} {c : Array Value} {t : TypeId} (h : w.heap[k]? = some (.cells c t)) (j : Nat) : w.frozen? ⟨k, j, none⟩ = false := by simp [World.frozen?, h]
theorem Made.holds {w W w' : World} {s u n wd : Nat} (hn : 1 ≤ n ∧ n ≤ 4096) (hw : 1 ≤ wd ∧ wd ≤ 16) (h : Made w s u n wd W) (f : FillS W (w.heap.size + 2) 9 n n w') : Holds w' ⟨w.heap.size + 2, s, u, w.heap.size + 3⟩ (.fresh n wd) ∧ Below w.heap.size w w' := by
  have hsz := h.size
  have hs := h.hs
  have hq := f.que
  have hl := f.low
  have hfr := f.free
  rw [hsz] at hq hl hfr
  have cb : ∀ j, j ≠ 11 → j ≠ 13 → w'.cell? ⟨w.heap.size + 2, j, none⟩ = _ := fun j h1 h2 => (f.far ⟨w.heap.size + 2, j, none⟩ (by simp; omega) (fun e => h1 (congrArg Addr.off e)) (fun e => h2 (congrArg Addr.off e))).trans (cell?_heap h.a j)
  have cs : ∀ j, w'.cell? ⟨s, j, none⟩ = _ := fun j => (f.far ⟨s, j, none⟩ (by simp; omega) (fun e => by have := congrArg Addr.block e; simp at this; omega) (fun e => by have := congrArg Addr.block e; simp at this; omega)).trans (cell?_heap h.p j)
  have cu : ∀ j, w'.cell? ⟨u, j, none⟩ = _ := fun j => (f.far ⟨u, j, none⟩ (by simp; omega) (fun e => by have := congrArg Addr.block e; simp at this; omega) (fun e => by have := congrArg Addr.block e; simp at this; omega)).trans (cell?_heap h.v j)
  refine ⟨⟨cb 0 (by decide) (by decide), cb 1 (by decide) (by decide), cb 2 (by decide) (by decide), cb 3 (by decide) (by decide), cb 5 (by decide) (by decide), cb 6 (by decide) (by decide), cb 7 (by decide) (by decide), cb 9 (by decide) (by decide), hq.ring, hq.front, hq.count, cb 14 (by decide) (by decide), cb 15 (by decide) (by decide), fun i hi => ?_, fun i hi => ?_, fun i hi => ?_, fun i hi => ?_, fun i hi => ?_, fun i hi => ?_, fun i hi => hl i hi, fun g j hg => ?_, ?_, ?_, ?_, ?_, ?_, ?_, ?_, ?_, ?_, ?_, hn, hw⟩, ?_⟩
  · have hi' : i < n := hi
    rw [cs, getElem?_made _ _ _ (by omega)]
    simp [AS.fresh, bitI]
  · have hi' : i < n := hi
    rw [cs, getElem?_made _ _ _ (by omega)]
    simp [AS.fresh, Ent.none, Nat.add_mod]
  · have hi' : i < n := hi
    rw [cs, getElem?_made _ _ _ (by omega)]
    simp [AS.fresh, Ent.none, Nat.add_mod]
  · have hi' : i < n := hi
    rw [cs, getElem?_made _ _ _ (by omega)]
    simp [AS.fresh, Ent.none, Nat.add_mod]
  · have hi' : i < n := hi
    rw [cs, getElem?_made _ _ _ (by omega)]
    simp [AS.fresh, Ent.none, Nat.add_mod]
  · have hi' : i < n * wd := hi
    rw [cu, getElem?_made _ _ _ (by omega)]
    simp [AS.fresh, Nat.mod_one]
  · rcases hg with rfl | rfl | rfl | rfl
    · exact (f.thaw _ (by simp; omega)).trans (frozen?_heap h.a j)
    · exact (f.thaw _ (by simp; omega)).trans (frozen?_heap h.p j)
    · exact (f.thaw _ (by simp; omega)).trans (frozen?_heap h.v j)
    · exact hfr j
  all_goals first
    | (have := f.size; show _ < w'.heap.size; simp only []; omega)
    | (show _ ≠ _; simp only []; omega)
    | skip
  exact h.low.trans (f.kp.below (by omega) (fun k hk e => by omega))
end Go.Proofs.YteekompojgbkhaaGreat

namespace Go.Proofs.YteekompojgbkhaaGreat
open Go.ChangeShapes Go.WideShapes Go.ChangeAt Go.RowKit
set_option linter.unusedVariables false

set_option maxRecDepth 100000 in
set_option maxHeartbeats 800000 in
/-- One that New made is not. -/
theorem missing_not (b wd : Nat) (w : World) (h0 : 0 < wd) (h1 : w.cell? ⟨b, 0, none⟩ = some (.int .i64 (wd : Int))) : Calls Tryz.prog 62 #[.pointer (some ⟨b, 0, none⟩)] w fun e w' => e = .returned (.bool false) ∧ w' = w := by
  have hne : ((wd : Int) == 0) = false := by simp; omega
  go_enter Tryz.func62, Tryz.ntmps62
  go_wp2
  go_ret
  exact ⟨rfl, rfl⟩
end Go.Proofs.YteekompojgbkhaaGreat
