import Derived.Test.YtnebbopdeljaiaaGreatRefNewE
import Derived.Test.YtnebbopdeljaiaaGreatCells3E
import Derived.Test.YtnebbopdeljaiaaGreatCells4E
import Derived.Test.YtnebbopdeljaiaaGreatAtomsE
namespace Go.Proofs.YtnebbopdeljaiaaGreat
open Go.ChangeShapes Go.WideShapes Go.ChangeAt Go.RowKit
set_option linter.unusedVariables false
set_option maxRecDepth 100000
set_option maxHeartbeats 1600000
/-- A region ends as it should, with this act and a world of which S holds. -/
def PostW (A : Act) (S : World → Prop) : Exit → Act → World → Prop
  | .normal, b, w' => b = A ∧ S w'
  | _, _, _ => False
theorem PostW.here (A : Act) {S : World → Prop} {w' : World} (h : S w') : PostW A S .normal A w' := ⟨rfl, h⟩
theorem wp_onceW {P : Program} {c : Code} {Q : Exit → Act → World → Prop} {a : Act} {w : World} (S : World → Prop) (h : ∃ A, c.wp P (PostW A S) a w ∧ ∀ w', S w' → Q .normal A w') : c.wp P Q a w := by
  obtain ⟨A, h1, h2⟩ := h
  refine Code.wp_mono ?_ h1
  intro e b w' h
  cases e <;> first | exact h.elim | (obtain ⟨rfl, h3⟩ := h; exact h2 _ h3)
theorem link_end (w : World) : Calls Tryz.prog 41 #[.int .i64 2147483647, .bool false] w fun e w' => e = .returned (.tuple #[.int .u64 4294967294, .int .i64 0]) ∧ w' = w := by
  go_enter Tryz.func41, Tryz.ntmps41
  go_wp2
  go_ret2
  exact ⟨rfl, rfl⟩
theorem linkOf_end (w : World) : Calls Tryz.prog 24 #[.int .i64 2147483647] w fun e w' => e = .returned (.int .u64 4294967294) ∧ w' = w := by
  go_enter Tryz.func24, Tryz.ntmps24
  go_wp2_with fail
  refine (link_end w).mono ?_
  rintro e w' ⟨rfl, rfl⟩
  go_wp2
  go_ret
  exact ⟨rfl, rfl⟩
theorem word_end (w : World) : Calls Tryz.prog 53 #[.int .i64 2147483647, .bool false] w fun e w' => e = .returned (.int .u64 4294967294) ∧ w' = w := by
  go_enter Tryz.func53, Tryz.ntmps53
  go_wp2
  go_ret
  exact ⟨rfl, rfl⟩
/-- A ladder: its arena's block, its first link, its levels, its heads, its count. -/
structure Lad (w : World) (l ab : Nat) (lk lv : Int) (hd : Nat → Int) (acc : Int) : Prop where
  c0 : w.cell? ⟨l, 0, none⟩ = some (.pointer (some ⟨ab, 0, none⟩))
  c1 : w.cell? ⟨l, 1, none⟩ = some (.int .i64 lk)
  c2 : w.cell? ⟨l, 2, none⟩ = some (.int .i64 lv)
  hd : ∀ i, i < 4 → w.cell? ⟨l, 3 + i, none⟩ = some (.int .u64 (hd i))
  c7 : w.cell? ⟨l, 7, none⟩ = some (.int .i64 acc)
  fz : ∀ j, w.frozen? ⟨l, j, none⟩ = false
  lt : l < w.heap.size
theorem Lad.kept {w w' : World} {l ab : Nat} {lk lv acc : Int} {hd : Nat → Int} (h : Lad w l ab lk lv hd acc) (hk : w'.heap[l]? = w.heap[l]?) (hs : w.heap.size ≤ w'.heap.size) : Lad w' l ab lk lv hd acc := by
  have e : ∀ j, w'.cell? ⟨l, j, none⟩ = w.cell? ⟨l, j, none⟩ := fun j => World.cell?_of_block (w := w) hk
  exact ⟨(e 0).trans h.c0, (e 1).trans h.c1, (e 2).trans h.c2, fun i hi => (e _).trans (h.hd i hi), (e 7).trans h.c7, fun j => (World.frozen?_of_block (w := w) hk).trans (h.fz j), Nat.lt_of_lt_of_le h.lt hs⟩
theorem Lad.drew {w : World} {l ab : Nat} {lk lv acc : Int} {hd : Nat → Int} (h : Lad w l ab lk lv hd acc) : Lad w.drew l ab lk lv hd acc := h.kept rfl (Nat.le_refl _)
theorem Lad.setHead {w : World} {l ab : Nat} {lk lv acc : Int} {hd : Nat → Int} (h : Lad w l ab lk lv hd acc) (k : Nat) (hk : k < 4) (x : Int) : Lad (w.setCell ⟨l, 3 + k, none⟩ (.int .u64 x)) l ab lk lv (upd hd k x) acc := by
  have ne : ∀ j, j ≠ 3 + k → (w.setCell ⟨l, 3 + k, none⟩ (.int .u64 x)).cell? ⟨l, j, none⟩ = w.cell? ⟨l, j, none⟩ := fun j hj => World.cell?_setCell_other _ _ _ _ (fun e => hj (congrArg Addr.off e).symm)
  refine ⟨(ne 0 (by omega)).trans h.c0, (ne 1 (by omega)).trans h.c1, (ne 2 (by omega)).trans h.c2, fun i hi => ?_, (ne 7 (by omega)).trans h.c7, fun j => by simpa using h.fz j, by simpa using h.lt⟩
  by_cases e : i = k
  · subst e
    have := World.cell?_setCell_same _ _ (.int .u64 x) (h.hd i hi)
    rw [upd_same]; exact this
  · rw [ne _ (by omega), upd_other _ _ e]; exact h.hd i hi
theorem Lad.start (w : World) (ab : Nat) (lk lv : Int) : Lad (w.alloc (.cells #[.pointer (some ⟨ab, 0, none⟩), .int .i64 lk, .int .i64 lv, .int .u64 0, .int .u64 0, .int .u64 0, .int .u64 0, .int .i64 0] 57)) w.heap.size ab lk lv (fun _ => 0) 0 := by
  have hg := heap_alloc_new w (.cells #[.pointer (some ⟨ab, 0, none⟩), .int .i64 lk, .int .i64 lv, .int .u64 0, .int .u64 0, .int .u64 0, .int .u64 0, .int .i64 0] 57)
  refine ⟨(cell?_heap hg 0).trans rfl, (cell?_heap hg 1).trans rfl, (cell?_heap hg 2).trans rfl, fun i hi => (cell?_heap hg _).trans ?_, (cell?_heap hg 7).trans rfl, fun j => frozen?_heap hg j, by simp⟩
  match i, hi with
  | 0, _ => rfl
  | 1, _ => rfl
  | 2, _ => rfl
  | 3, _ => rfl
/-- The heads when t of them are laid. -/
def heads0 (t : Nat) : Nat → Int := fun i => if i < t then 4294967294 else 0
theorem heads0_step (t : Nat) : upd (heads0 t) t 4294967294 = heads0 (t + 1) := by
  funext i
  unfold upd heads0
  by_cases h : i = t
  · subst h; simp
  · rw [if_neg h]
    by_cases h2 : i < t
    · rw [if_pos h2, if_pos (by omega)]
    · rw [if_neg h2, if_neg (by omega)]
theorem lad_new (ab n c wd lk lv : Nat) (sp : Option Addr) (w : World) (hw : 1 ≤ wd) (hn : 1 ≤ n) (hwd : wd ≤ 16) (a0 : w.cell? ⟨ab, 0, none⟩ = some (.int .i64 (wd : Int))) (a1 : w.cell? ⟨ab, 1, none⟩ = some (.slice sp n c)) (h1 : 1 ≤ lv) (h2 : lv ≤ 4) (h3 : lk + lv ≤ wd) :
    Calls Tryz.prog 5 #[.pointer (some ⟨ab, 0, none⟩), .int .i64 (lk : Int), .int .i64 (lv : Int)] w fun e w' => e = .returned (.tuple #[.pointer (some ⟨w.heap.size, 0, none⟩), .int .i64 0]) ∧ Lad w' w.heap.size ab lk lv (heads0 lv) 0 ∧ Below w.heap.size w w' := by
  have hne : ((n : Int) == 0) = false := by simp; omega
  have i0 : ¬ (n : Int) = 0 := by omega
  have i1 : ¬ (lv : Int) < 1 := by omega
  have i2 : ¬ (lv : Int) > 4 := by omega
  have i3 : ¬ (lk : Int) < 0 := by omega
  have i5 : IntKind.i64.wrap ((wd : Int) - (lv : Int)) = (wd : Int) - (lv : Int) := by rw [IntKind.wrap_i64]; omega
  have i4 : ¬ (lk : Int) > (wd : Int) - (lv : Int) := by omega
  have HL : Hid (Lad (w.drew.alloc _) w.heap.size ab lk lv (fun _ => 0) 0) := Lad.start w.drew ab lk lv
  have HB : Hid (Below w.heap.size w (w.drew.alloc (.cells #[.pointer (some ⟨ab, 0, none⟩), .int .i64 lk, .int .i64 lv, .int .u64 0, .int .u64 0, .int .u64 0, .int .u64 0, .int .i64 0] 57))) := ((Below.refl _ _).drew).alloc (Nat.le_refl _) _
  go_enter Tryz.func5, Tryz.ntmps5
  go_wp2_with fail
  refine (shape_any ab n wd c sp w hw a0 a1).mono ?_
  rintro e w' ⟨rfl, rfl⟩
  clear a0 a1
  go_wp2_with fail
  clear i1 i2 i3 i4 i5 hne i0
  go_loopw [42] (fun i wr => ∃ t : Nat, t ≤ lv ∧ i = .int .i64 t ∧ Lad wr w.heap.size ab lk lv (heads0 t) 0 ∧ Below w.heap.size w wr) (fun i _ => lv - (intOf i).toNat)
  case atStart => exact ⟨0, by omega, rfl, HL.out, HB.out⟩
  case round =>
    obtain ⟨t, ht, rfl, hS, hK⟩ := hrel
    have HS : Hid (Lad wr w.heap.size ab lk lv (heads0 t) 0 ∧ Below w.heap.size w wr) := ⟨hS, hK⟩
    clear hS hK HL HB
    by_cases h4 : t < lv
    · have HX : Hid (∀ W, W = wr ∨ W = wr.drew → Calls Tryz.prog 23 #[.pointer (some ⟨w.heap.size, 3 + t, none⟩), .int .u64 4294967294] W fun e w' => e = .returned (.tuple #[]) ∧ Hid (Lad w' w.heap.size ab lk lv (heads0 (t + 1)) 0 ∧ Below w.heap.size w w')) := by
        intro W hW
        have hL : Lad W w.heap.size ab lk lv (heads0 t) 0 ∧ Below w.heap.size w W := by
          rcases hW with rfl | rfl
          · exact HS.out
          · exact ⟨HS.out.1.drew, HS.out.2.drew⟩
        refine (u64_store _ _ _ _ (hL.1.hd t (by omega)) (hL.1.fz _)).mono ?_
        rintro e w' ⟨rfl, rfl⟩
        have h5 := hL.1.setHead t (by omega) 4294967294
        rw [heads0_step] at h5
        exact ⟨rfl, h5, hL.2.setCell (p := ⟨w.heap.size, 3 + t, none⟩) (Nat.le_refl _) _⟩
      have ht4 : (t : Int) < 4 := by omega
      clear HS
      go_wp2_with fail
      refine wp_onceW (fun w' => Hid (Lad w' w.heap.size ab lk lv (heads0 (t + 1)) 0 ∧ Below w.heap.size w w')) ?_
      apply Exists.intro
      constructor
      · go_region_with (first | (go_at_call 24; refine (linkOf_end _).mono ?_; rintro e w' ⟨rfl, rfl⟩) | (go_at_call 23; refine (HX.out _ (by first | exact Or.inl rfl | exact Or.inr rfl)).mono ?_; rintro e w' ⟨rfl, HR⟩))
        all_goals exact PostW.here _ (by assumption)
      intro w' HR
      clear HX
      go_wp2
      go_roundw
      case rel => exact ⟨t + 1, by omega, by go_num, HR.out⟩
      case measure => simp [intOf]; omega
    · have e4 : t = lv := by omega
      subst e4
      go_wp2
      go_ret2
      exact ⟨rfl, HS.out⟩
end Go.Proofs.YtnebbopdeljaiaaGreat
