import Derived.Test.YtjkipbjphdfemaaDoorSums2
import Derived.Deep.RegionHeld3
namespace Go.Proofs.YtjkipbjphdfemaaDoor
open Go.ChangeShapes Go.WideShapes Go.ChangeAt Go.RowKit Go.MuLone
set_option linter.unusedVariables false

theorem sqS_start (w : World) (F G : Nat → Nat) : SqS w F G w.heap.size 0 (((w.alloc (.cells #[.int .u32 ((F 0 : Nat) : Int), .int .u32 ((F 1 : Nat) : Int), .int .u32 ((F 2 : Nat) : Int), .int .u32 ((F 3 : Nat) : Int), .int .u32 ((F 4 : Nat) : Int), .int .u32 ((F 5 : Nat) : Int), .int .u32 ((F 6 : Nat) : Int), .int .u32 ((F 7 : Nat) : Int), .int .u32 ((F 8 : Nat) : Int), .int .u32 ((F 9 : Nat) : Int), .int .u32 ((F 10 : Nat) : Int), .int .u32 ((F 11 : Nat) : Int), .int .u32 ((F 12 : Nat) : Int), .int .u32 ((F 13 : Nat) : Int), .int .u32 ((F 14 : Nat) : Int), .int .u32 ((F 15 : Nat) : Int), .int .u32 ((F 16 : Nat) : Int), .int .u32 ((F 17 : Nat) : Int), .int .u32 ((F 18 : Nat) : Int), .int .u32 ((F 19 : Nat) : Int), .int .u32 ((F 20 : Nat) : Int), .int .u32 ((F 21 : Nat) : Int), .int .u32 ((F 22 : Nat) : Int), .int .u32 ((F 23 : Nat) : Int), .int .u32 ((F 24 : Nat) : Int), .int .u32 ((F 25 : Nat) : Int), .int .u32 ((F 26 : Nat) : Int), .int .u32 ((F 27 : Nat) : Int), .int .u32 ((F 28 : Nat) : Int), .int .u32 ((F 29 : Nat) : Int), .int .u32 ((F 30 : Nat) : Int), .int .u32 ((F 31 : Nat) : Int)] 54)).alloc (.cells #[.int .u32 0, .int .u32 0, .int .u32 0, .int .u32 0, .int .u32 0, .int .u32 0, .int .u32 0, .int .u32 0, .int .u32 0, .int .u32 0, .int .u32 0, .int .u32 0, .int .u32 0, .int .u32 0, .int .u32 0, .int .u32 0, .int .u32 0, .int .u32 0, .int .u32 0, .int .u32 0, .int .u32 0, .int .u32 0, .int .u32 0, .int .u32 0, .int .u32 0, .int .u32 0, .int .u32 0, .int .u32 0, .int .u32 0, .int .u32 0, .int .u32 0, .int .u32 0] 54)).alloc (.cells #[.int .u32 0, .int .u32 0, .int .u32 0, .int .u32 0, .int .u32 0, .int .u32 0, .int .u32 0, .int .u32 0, .int .u32 0, .int .u32 0, .int .u32 0, .int .u32 0, .int .u32 0, .int .u32 0, .int .u32 0, .int .u32 0, .int .u32 0, .int .u32 0, .int .u32 0, .int .u32 0, .int .u32 0, .int .u32 0, .int .u32 0, .int .u32 0, .int .u32 0, .int .u32 0, .int .u32 0, .int .u32 0, .int .u32 0, .int .u32 0, .int .u32 0, .int .u32 0] 54)) := by
  rw [← rowF_lit, ← rowZ_lit]
  generalize hA : Obj.cells (rowF F).toArray 54 = A
  generalize hB : Obj.cells (rowF fun _ => 0).toArray 54 = Z
  have s1 : (w.alloc A).heap.size = w.heap.size + 1 := by show (Array.push _ _).size = _; simp
  have s2 : ((w.alloc A).alloc Z).heap.size = w.heap.size + 1 + 1 := by show (Array.push _ _).size = _; rw [Array.size_push, s1]
  have s3 : (((w.alloc A).alloc Z).alloc Z).heap.size = w.heap.size + 1 + 1 + 1 := by show (Array.push _ _).size = _; rw [Array.size_push, s2]
  refine ⟨fun j v hv => ?_, fun j v hv => ?_, fun j hj => ⟨?_, ?_⟩, fun j => ?_, by omega, ?_⟩
  · rw [World.cell?_alloc_past _ _ _ (by omega), World.cell?_alloc_past _ _ _ (by omega), Nat.zero_add]
    subst hA
    rw [World.cell?_alloc_at _ _ _ _ rfl, List.getElem?_toArray]
    exact hv
  · rw [Nat.zero_add]
    subst hB
    rw [World.cell?_alloc_at _ _ _ _ s2.symm, List.getElem?_toArray]
    simpa using hv
  · rw [World.cell?_alloc_past _ _ _ (by omega), Nat.zero_add]
    subst hB
    rw [World.cell?_alloc_at _ _ _ _ s1.symm, List.getElem?_toArray, rowF_get _ j hj]
    rfl
  · rw [World.frozen?_alloc_past _ _ _ (by omega)]
    subst hB
    rw [World.frozen?_alloc_at _ _ _ _ s1.symm]
  · subst hB
    rw [World.frozen?_alloc_at _ _ _ _ s2.symm]
  · exact (((Below.refl _ _).alloc (Nat.le_refl _) _).alloc (by omega) _).alloc (by omega) _
theorem load_cells {w : World} {b : Nat} {F : Nat → Nat} (h : w.rangeAt b 0 (rowF F)) : (loadCellsFrom ⟨b, 0, none⟩ 0 32 #[]).run Tryd.prog w = .ok (rowF F).toArray w := by
  have := run_loadCells_list (P := Tryd.prog) w ⟨b, 0, none⟩ (rowF F) (fun j v hv => by rw [Addr.add_mid]; exact h j v hv)
  rw [rowF_len] at this
  simpa [loadCells] using this
theorem through_row (F G : Nat → Nat) (k : Nat) (w : World) (hk : k < 32) (hF : ∀ i, i < 32 → F i < 4294967296) (hG : G k = thS F (F k) 32) :
    Calls Tryd.prog 16 #[.agg (rowF F).toArray, .int .u32 ((F k : Nat) : Int)] w fun e w' => e = .returned (.int .u32 (G k : Nat)) ∧ w' = w.alloc (.cells (rowF F).toArray 54) := by
  rw [hG]
  exact through_any F (F k) w (hF k hk) hF
/-- The number in a cell. -/
def vAt (W : World) (a : Addr) : Int := match W.cell? a with | some (.int _ y) => y | _ => 0
theorem vAt_of {W : World} {a : Addr} {x : Int} (h : W.cell? a = some (.int .u32 x)) : W.cell? a = some (.int .u32 (vAt W a)) := by unfold vAt; rw [h]
theorem sq_put {W : World} {n m k : Nat} {F : Nat → Nat} (h : W.rangeAt n 0 (rowF F) ∧ W.cell? ⟨n, k, none⟩ = some (.int .u32 (F k : Nat)) ∧ W.cell? ⟨m, k, none⟩ = some (.int .u32 (vAt W ⟨m, k, none⟩)) ∧ W.frozen? ⟨m, k, none⟩ = false) (hne : m ≠ n) (c : Int) :
    (W.setCell ⟨m, k, none⟩ (.int .u32 c)).rangeAt n 0 (rowF F) ∧ (W.setCell ⟨m, k, none⟩ (.int .u32 c)).cell? ⟨n, k, none⟩ = some (.int .u32 (F k : Nat)) ∧ (W.setCell ⟨m, k, none⟩ (.int .u32 c)).cell? ⟨m, k, none⟩ = some (.int .u32 (vAt (W.setCell ⟨m, k, none⟩ (.int .u32 c)) ⟨m, k, none⟩)) ∧ (W.setCell ⟨m, k, none⟩ (.int .u32 c)).frozen? ⟨m, k, none⟩ = false := by
  obtain ⟨h1, h2, h3, h4⟩ := h
  have far : ∀ j, (W.setCell ⟨m, k, none⟩ (.int .u32 c)).cell? ⟨n, j, none⟩ = W.cell? ⟨n, j, none⟩ := fun j => World.cell?_setCell_other W ⟨m, k, none⟩ ⟨n, j, none⟩ _ (fun e => hne (congrArg Addr.block e))
  exact ⟨fun j v hv => (far _).trans (h1 j v hv), (far _).trans h2, vAt_of (World.cell?_setCell_same W ⟨m, k, none⟩ _ h3), by simp [h4]⟩
theorem below_setCells {B : Nat} {w : World} (b : Nat) (hb : B ≤ b) : ∀ (vs : List Value) (o : Nat) (W : World), Below B w W → Below B w (W.setCells b o vs)
  | [], _, _, h => h
  | v :: r, o, W, h => below_setCells b hb r (o + 1) _ (h.setCell hb _)
theorem results_cell_mid {fn : Func} {p : Tmp} {ty : TypeId} (h : fn.results = #[.cell p ty]) (tmps : Array Value) (w : World) (g : Nat) (cs : List Value) (d : TypeDesc)
    (hp : tmps.getD p undef = .pointer (some ⟨g, 0, none⟩)) (hg : w.rangeAt g 0 cs)
    (hu : Tryd.prog.underlying ty = some d) (hd : d.isRow = true) (hi : (Tryd.prog.info? ty).map (·.size) = some cs.length) :
    (results fn tmps).run Tryd.prog w = .ok (.agg cs.toArray) w := by
  have hp' : tmps[p]?.getD undef = .pointer (some ⟨g, 0, none⟩) := by simpa using hp
  simp [results, h, hp', asAddr, run_loadVar_mid w g 0 ty cs d hg hu hd hi]
theorem rowF_one (F : Nat → Nat) : (rowF F).toArray.all (·.oneCell') = true := all_oneCell_toArray (fun v hv => by
  obtain ⟨i, _, rfl⟩ := List.mem_map.1 hv
  rfl)
theorem rowF_size (F : Nat → Nat) : (Tryd.prog.info? 54).map (·.size) = some (rowF F).toArray.size := by rw [List.size_toArray, rowF_len]; exact i32x
theorem rowF_if (G : Nat → Nat) : (rowF fun i => if i < 32 then G i else 0) = rowF G := by
  unfold rowF
  apply List.map_congr_left
  intro i hi
  show Value.int .u32 (((if i < 32 then G i else 0 : Nat)) : Int) = _
  rw [if_pos (List.mem_range.1 hi)]
set_option maxRecDepth 100000 in
set_option maxHeartbeats 1600000 in
theorem square_any (F G : Nat → Nat) (w : World) (hF : ∀ i, i < 32 → F i < 4294967296) (hG : ∀ i, i < 32 → G i = thS F (F i) 32) :
    Calls Tryd.prog 17 #[.agg #[.int .u32 ((F 0 : Nat) : Int), .int .u32 ((F 1 : Nat) : Int), .int .u32 ((F 2 : Nat) : Int), .int .u32 ((F 3 : Nat) : Int), .int .u32 ((F 4 : Nat) : Int), .int .u32 ((F 5 : Nat) : Int), .int .u32 ((F 6 : Nat) : Int), .int .u32 ((F 7 : Nat) : Int), .int .u32 ((F 8 : Nat) : Int), .int .u32 ((F 9 : Nat) : Int), .int .u32 ((F 10 : Nat) : Int), .int .u32 ((F 11 : Nat) : Int), .int .u32 ((F 12 : Nat) : Int), .int .u32 ((F 13 : Nat) : Int), .int .u32 ((F 14 : Nat) : Int), .int .u32 ((F 15 : Nat) : Int), .int .u32 ((F 16 : Nat) : Int), .int .u32 ((F 17 : Nat) : Int), .int .u32 ((F 18 : Nat) : Int), .int .u32 ((F 19 : Nat) : Int), .int .u32 ((F 20 : Nat) : Int), .int .u32 ((F 21 : Nat) : Int), .int .u32 ((F 22 : Nat) : Int), .int .u32 ((F 23 : Nat) : Int), .int .u32 ((F 24 : Nat) : Int), .int .u32 ((F 25 : Nat) : Int), .int .u32 ((F 26 : Nat) : Int), .int .u32 ((F 27 : Nat) : Int), .int .u32 ((F 28 : Nat) : Int), .int .u32 ((F 29 : Nat) : Int), .int .u32 ((F 30 : Nat) : Int), .int .u32 ((F 31 : Nat) : Int)]] w fun e w' => e = .returned (.agg (rowF G).toArray) ∧ Below w.heap.size w w' := by
  have HZ : Hid (SqS w F G w.heap.size 0 _) := sqS_start w F G
  have HG : Hid _ := hG
  have HF : Hid _ := hF
  clear hG hF
  go_enter Tryd.func17, Tryd.ntmps17
  go_wp2
  go_loopw [4] (fun i wr => ∃ k : Nat, k ≤ 32 ∧ i = .int .i64 k ∧ SqS w F G w.heap.size k wr) (fun i _ => 32 - (intOf i).toNat)
  case atStart => exact ⟨0, by omega, rfl, HZ.out⟩
  case round =>
    obtain ⟨k, hk, rfl, hS⟩ := hrel
    have HS : Hid (SqS w F G w.heap.size k wr) := hS
    by_cases h1 : k < 32
    · have hr0 : wr.drew.rangeAt w.heap.size 0 (rowF F) := hS.1
      have c1 : wr.drew.cell? ⟨w.heap.size, k, none⟩ = some (.int .u32 (F k : Nat)) := range_row (w := wr.drew) hS.1 k h1
      have c3 : wr.drew.cell? ⟨w.heap.size + 1 + 1, k, none⟩ = some (.int .u32 0) := by
        have := range_row (w := wr.drew) hS.2.1 k h1
        rwa [if_neg (by omega)] at this
      have f3 : wr.drew.frozen? ⟨w.heap.size + 1 + 1, k, none⟩ = false := hS.2.2.2.1 k
      have l3 : w.heap.size + 1 + 1 < wr.drew.heap.size := hS.2.2.2.2.1
      have l4 : w.heap.size + 1 + 1 < wr.heap.size := hS.2.2.2.2.1
      have c4 : wr.cell? ⟨w.heap.size + 1 + 1, k, none⟩ = some (.int .u32 0) := c3
      have f4 : wr.frozen? ⟨w.heap.size + 1 + 1, k, none⟩ = false := f3
      clear hS HZ
      have hu := u32x
      have hi : (Tryd.prog.info? 54).map (·.size) = some (rowF F).length := by rw [rowF_len]; exact i32x
      have hl := rowF_len F
      have hn1 : w.heap.size < wr.drew.heap.size := by omega
      have HX : Hid (∀ W, W = wr.drew → Calls Tryd.prog 16 #[.agg (rowF F).toArray, .int .u32 ((F k : Nat) : Int)] W fun e w' => e = .returned (.int .u32 (G k : Nat)) ∧ Hid (w' = wr.drew.alloc (.cells (rowF F).toArray 54)) ∧ w'.rangeAt w.heap.size 0 (rowF F) ∧ w'.cell? ⟨w.heap.size, k, none⟩ = some (.int .u32 (F k : Nat)) ∧ w'.cell? ⟨w.heap.size + 1 + 1, k, none⟩ = some (.int .u32 0) ∧ w'.frozen? ⟨w.heap.size + 1 + 1, k, none⟩ = false) := by
        rintro W rfl
        refine (through_row F G k wr.drew h1 HF.out (HG.out k h1)).mono fun e w' ⟨he, hw⟩ => ⟨he, hw, ?_⟩
        subst hw
        refine ⟨fun j v hv => (World.cell?_alloc_past _ _ _ hn1).trans (hr0 j v hv), (World.cell?_alloc_past _ _ _ hn1).trans c1, (World.cell?_alloc_past _ _ _ l3).trans c3, (World.frozen?_alloc_past _ _ _ l3).trans f3⟩
      go_wp2_with fail
      go_region_held3 (fun w' => w'.rangeAt w.heap.size 0 (rowF F) ∧ w'.cell? ⟨w.heap.size, k, none⟩ = some (.int .u32 (F k : Nat)) ∧ w'.cell? ⟨w.heap.size + 1 + 1, k, none⟩ = some (.int .u32 (vAt w' ⟨w.heap.size + 1 + 1, k, none⟩)) ∧ w'.frozen? ⟨w.heap.size + 1 + 1, k, none⟩ = false) (first | assumption | exact ⟨hr0, c1, vAt_of c3, f3⟩ | exact ⟨k0, k1, vAt_of k2, k3⟩ | exact sq_put (by assumption) (by omega) _ | exact sq_put ⟨k0, k1, vAt_of k2, k3⟩ (by omega) _) (first | (go_at_call 16; refine (HX.out _ rfl).mono ?_; rintro e w' ⟨rfl, hwe, k0, k1, k2, k3⟩))
      have HS2 : Hid (SqS w F G w.heap.size (k + 1) (w'.setCell ⟨w.heap.size + 1 + 1, k, none⟩ (.int .u32 (G k : Nat)))) := by
        show SqS w F G w.heap.size (k + 1) _
        rw [hwe.out]
        exact (HS.out.grow _).put h1
      clear HS HX hr0 c1 c3 f3 c4 f4 k0 k1 k2 k3
      go_wp2
      go_roundw
      case rel => exact ⟨k + 1, by omega, by go_num, HS2.out⟩
      case measure => simp [intOf]; omega
    · have e32 : k = 32 := by omega
      subst e32
      have hr2 : wr.rangeAt (w.heap.size + 1 + 1) 0 (rowF G) := by have := hS.2.1; rwa [rowF_if] at this
      have HR : Hid (wr.rangeAt (w.heap.size + 1 + 1) 0 (rowF G)) := hr2
      have HT : Hid (wr.there (w.heap.size + 1) 0 (rowF G).toArray.size) := by
        have e : (rowF G).toArray.size = 32 := by simp [rowF_len]
        rw [e]
        exact hS.2.2.1
      have HB : Hid (Below w.heap.size w wr) := hS.2.2.2.2.2
      clear hS HS hr2
      go_wp2_with (first | (refine wpList_load_mid (by rfl) 54 (.tmp 3) (by rfl) (w.heap.size + 1 + 1) 0 (by rfl) (rowF G) _ HR.out u32x rfl (by rw [rowF_len]; exact i32x) ?_) | (refine wpList_store_mid (by rfl) 54 (.tmp 2) _ (by rfl) (w.heap.size + 1) 0 (rowF G).toArray (by rfl) (by rfl) HT.out (rowF_size G) (rowF_one G) ?_))
      have HT2 : wr.there (w.heap.size + 1) 0 (rowF G).toArray.toList.length := HT.out
      refine bodyPost_ret (results_cell_mid (p := 2) (ty := 54) rfl _ _ (w.heap.size + 1) (rowF G) _ (by rfl) (World.rangeAt_setCells_same wr (w.heap.size + 1) 0 _ HT2) u32x rfl (by rw [rowF_len]; exact i32x)) rfl ⟨rfl, below_setCells _ (by omega) _ _ _ HB.out⟩
end Go.Proofs.YtjkipbjphdfemaaDoor
