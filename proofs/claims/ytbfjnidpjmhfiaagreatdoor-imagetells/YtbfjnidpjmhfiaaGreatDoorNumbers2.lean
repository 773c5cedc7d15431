import Derived.Test.YtbfjnidpjmhfiaaGreatDoorNumbers
namespace Go.Proofs.YtbfjnidpjmhfiaaGreatDoor
open Go.ChangeShapes Go.WideShapes Go.ChangeAt Go.RowKit

theorem made_ownB {w : World} {B g n : Nat} (h : w.ownsRow B 5 1 (.slice (some ⟨g, 0, none⟩) n n) n (madeCells (Value.int .u8 0).cells (n * 1)).toList) : ownB w B (.slice (some ⟨g, 0, none⟩) n n) (List.replicate n 0) := by
  have e : (madeCells (Value.int .u8 0).cells (n * 1)).toList = (List.replicate n (0 : Int)).map (Value.int .u8) := by
    simp only [madeCells, Value.cells]
    apply List.ext_getElem
    · simp
    · intro i h1 h2
      simp [Nat.mod_one]
  rw [e] at h
  unfold ownB
  rw [List.length_replicate]
  exact h
theorem own_cell {w : World} {B g n cap : Nat} {ys : List Int} (h : ownB w B (.slice (some ⟨g, 0, none⟩) n cap) ys) (hl : ys.length = n) (k : Nat) (hk : k < n) : ∃ c, w.cell? ⟨g, k, none⟩ = some (.int .u8 c) := by
  unfold ownB at h
  rw [hl] at h
  have := World.ownsRow.cellAt h k (by omega)
  rw [this]
  exact ⟨ys[k], by simp [List.getElem?_eq_getElem (show k < ys.length by omega)]⟩
theorem own_free {w : World} {B g n cap : Nat} {ys : List Int} (h : ownB w B (.slice (some ⟨g, 0, none⟩) n cap) ys) (hl : ys.length = n) (k : Nat) : w.frozen? ⟨g, k, none⟩ = false := by
  unfold ownB at h
  rw [hl] at h
  exact World.ownsRow.frozenAt h k
theorem own_put {w : World} {B g n cap : Nat} {ys : List Int} (h : ownB w B (.slice (some ⟨g, 0, none⟩) n cap) ys) (hl : ys.length = n) (k : Nat) (c : Int) : ownB (w.setCell ⟨g, k, none⟩ (.int .u8 c)) B (.slice (some ⟨g, 0, none⟩) n cap) (ys.set k c) := by
  unfold ownB at h ⊢
  rw [List.length_set, List.map_set]
  rw [hl] at h ⊢
  exact (World.ownsRow.stored h k _).1

theorem take_put {ys : List Int} {n k : Nat} {v : Int} (h : ys.take k = (fxB n v).take k) (hl : ys.length = n) (hk : k < n) : (ys.set k (v / 2 ^ (8 * k) % 256)).take (k + 1) = (fxB n v).take (k + 1) := by
  have e : (256 : Int) ^ k = 2 ^ (8 * k) := by rw [Int.pow_mul]; rfl
  apply List.ext_getElem?
  intro i
  rw [List.getElem?_take, List.getElem?_take]
  split
  · rw [List.getElem?_set]
    by_cases hi : k = i
    · subst hi
      rw [if_pos rfl, if_pos (by omega), fxB_get n k v hk, e]
    · rw [if_neg hi]
      have := congrArg (fun l : List Int => l[i]?) h
      simp only [List.getElem?_take] at this
      rwa [if_pos (by omega), if_pos (by omega)] at this
  · rfl

set_option maxRecDepth 100000 in
set_option maxHeartbeats 800000 in
theorem lowest_first (v : Int) (n : Nat) (w : World) (_h0 : 0 ≤ v) (_h1 : v ≤ 18446744073709551615) (hn : n ≤ 8) :
    Calls Tryz.prog 68 #[.int .u64 v, .int .i64 n] w fun e w' => e = .returned (.string (strOfNums (fxB n v))) ∧ Below w.heap.size w w' := by
  obtain ⟨B, hBe⟩ : ∃ B, B = w.heap.size := ⟨_, rfl⟩
  have HBe : Hid (B = w.heap.size) := hBe
  have hBw : B ≤ w.heap.size := by omega
  clear hBe
  rw [← HBe.out]
  obtain ⟨i0, hi, hz0, hz1, hz2⟩ := info_parts infoB
  go_enter Tryz.func68, Tryz.ntmps68
  go_wp2_with (at_make; refine wpList_make_full _ (by rfl) _ _ 64 (by rfl) B 5 i0 (.int .u8 0) 1 Tryz.underlying64 hi hz0 hz1 .i64 .i64 _ _ n (by rfl) (by rfl) (by rfl) (by rfl) (by rw [hz2]; omega) (by unfold maxLen; omega) hBw ?_; intro w1 hown1 hgrow1; have HO1 : Hid _ := hown1; have HG1 : Hid _ := hgrow1; clear hown1 hgrow1)
  go_loopw [11] (fun i wr => ∃ (k : Nat) (ys : List Int), k ≤ n ∧ i = .int .i64 k ∧ ownB wr B (.slice (some ⟨w.heap.size, 0, none⟩) n n) ys ∧ ys.length = n ∧ ys.take k = (fxB n v).take k ∧ Below B w wr) (fun i _ => n - (intOf i).toNat)
  case atStart => exact ⟨0, List.replicate n 0, by omega, rfl, made_ownB HO1.out, by simp, by simp, (Below.refl _ _).grown HG1.out hBw (fun k h => by cases h)⟩
  case round =>
    obtain ⟨k, ys, hk, rfl, hown, hl, ht, hbel⟩ := hrel
    have HB : Hid (Below B w wr) := hbel
    have HT : Hid (ys.take k = (fxB n v).take k) := ht
    have HO : Hid (ownB wr B (.slice (some ⟨w.heap.size, 0, none⟩) n n) ys) := hown
    have HL : Hid (ys.length = n) := hl
    clear hbel ht hown hl HO1 HG1 hi hz0 hz1 hz2
    by_cases hlt : k < n
    · have hc := own_cell HO.out HL.out k hlt
      obtain ⟨c0, hc0⟩ := hc
      have hfz := own_free HO.out HL.out k
      go_wp2
      go_roundw
      case rel => exact ⟨k + 1, ys.set k (v / 2 ^ (8 * k) % 256), by omega, by go_num, own_put HO.out HL.out k _, by rw [List.length_set]; exact HL.out, take_put HT.out HL.out hlt, HB.out.setCell (by show B ≤ w.heap.size; exact hBw) _⟩
      case measure => simp [intOf]; omega
    · have hk' : k = n := by omega
      have hun : ys = fxB n v := by have := HT.out; rwa [hk', List.take_of_length_le (by rw [HL.out]; exact Nat.le_refl _), List.take_of_length_le (by rw [fxB_len]; exact Nat.le_refl _)] at this
      have HU : Hid _ := hun
      have hcv := (HO.out).conv
      clear hun hk'
      go_wp2
      go_ret
      refine ⟨?_, HB.out⟩
      rw [HU.out]; rfl

set_option maxRecDepth 100000 in
theorem fixed32 (v : Int) (w : World) (h0 : 0 ≤ v) (h1 : v ≤ 4294967295) :
    Calls Tryz.prog 44 #[.int .u32 v] w fun e w' => e = .returned (.string (strOfNums (fxB 4 v))) ∧ Below w.heap.size w w' := by
  go_enter Tryz.func44, Tryz.ntmps44
  go_wp2_with fail
  refine (lowest_first v 4 w h0 (by omega) (by omega)).mono ?_
  rintro e w1 ⟨rfl, hbel⟩
  have HB : Hid _ := hbel
  clear hbel
  go_wp2
  go_ret
  exact ⟨rfl, HB.out⟩
set_option maxRecDepth 100000 in
theorem ref_fixed32 (v : Int) (w : World) (h0 : 0 ≤ v) (h1 : v ≤ 4294967295) :
    Calls Tryz.prog 56 #[.int .u32 v] w fun e w' => e = .returned (.string (strOfNums (fxB 4 v))) ∧ Below w.heap.size w w' := by
  go_enter Tryz.func56, Tryz.ntmps56
  go_wp2_with fail
  refine (ref_fixed v 4 w h0 (by omega) (by omega)).mono ?_
  rintro e w1 ⟨rfl, hbel⟩
  have HB : Hid _ := hbel
  clear hbel
  go_wp2
  go_ret
  exact ⟨rfl, HB.out⟩
/-- A blob's two answers. -/
def blobV (s : ByteArray) : ByteArray × Int := if s.size ≤ 1048576 then (strOfNums (uvB s.size) ++ s, 0) else (ByteArray.empty, 4)
theorem uvB_len (v : Int) : (uvB v).length ≤ 10 ∧ 1 ≤ (uvB v).length := uvF_len 9 v
theorem tupS {l : IntKind} {a : ByteArray} {b : Int} {c : ByteArray × Int} (h : c = (a, b)) : Ending.returned (.tuple #[.string a, .int l b]) = .returned (.tuple #[.string c.1, .int l c.2]) := by
  rw [h]
set_option maxRecDepth 100000 in
theorem blob (s : ByteArray) (w : World) (hs : s.size ≤ 140737488351232) :
    Calls Tryz.prog 51 #[.string s] w fun e w' => e = .returned (.tuple #[.string (blobV s).1, .int .i64 (blobV s).2]) ∧ Below w.heap.size w w' := by
  by_cases hz : s.size ≤ 1048576
  · have hadd : ∀ (w : World), (Op.stringOp .add (strOfNums (uvB s.size)) s).run Tryz.prog w = .ok (.string (strOfNums (uvB s.size) ++ s)) w := fun w => run_string_add_sum w _ _ (by rw [strOfNums_size]; have := uvB_len s.size; omega)
    go_enter Tryz.func51, Tryz.ntmps51
    go_wp2_with fail
    refine (uvarint _ _ (by omega) (by omega)).mono ?_
    rintro e w1 ⟨rfl, hbel⟩
    have HB : Hid _ := hbel
    clear hbel
    go_wp2
    go_ret2
    exact ⟨tupS (by unfold blobV; rw [if_pos hz]), HB.out⟩
  · go_enter Tryz.func51, Tryz.ntmps51
    go_wp2
    go_ret2
    exact ⟨tupS (by unfold blobV; rw [if_neg hz]; rfl), Below.refl _ _⟩
set_option maxRecDepth 100000 in
theorem ref_blob (s : ByteArray) (w : World) (hs : s.size ≤ 140737488351232) :
    Calls Tryz.prog 55 #[.string s] w fun e w' => e = .returned (.tuple #[.string (blobV s).1, .int .i64 (blobV s).2]) ∧ Below w.heap.size w w' := by
  by_cases hz : s.size ≤ 1048576
  · have hadd : ∀ (w : World), (Op.stringOp .add (strOfNums (uvB s.size)) s).run Tryz.prog w = .ok (.string (strOfNums (uvB s.size) ++ s)) w := fun w => run_string_add_sum w _ _ (by rw [strOfNums_size]; have := uvB_len s.size; omega)
    go_enter Tryz.func55, Tryz.ntmps55
    go_wp2_with fail
    refine (ref_uvarint _ _ (by omega) (by omega)).mono ?_
    rintro e w1 ⟨rfl, hbel⟩
    have HB : Hid _ := hbel
    clear hbel
    go_wp2
    go_ret2
    exact ⟨tupS (by unfold blobV; rw [if_pos hz]), HB.out⟩
  · go_enter Tryz.func55, Tryz.ntmps55
    go_wp2
    go_ret2
    exact ⟨tupS (by unfold blobV; rw [if_neg hz]; rfl), Below.refl _ _⟩
end Go.Proofs.YtbfjnidpjmhfiaaGreatDoor
