import Derived.Test.YtfofionocnbohaaDoorLkR2
namespace Go.Proofs.YtfofionocnbohaaDoor
open Go.ChangeShapes Go.WideShapes Go.ChangeAt Go.RowKit
set_option linter.unusedVariables false
set_option maxRecDepth 100000
/-- A character's bytes and its number. -/
def Chr (x : ByteArray) (c : Int) : Prop := ∃ m : List UInt8, m ≠ [] ∧ x = ⟨(m.take (wdL m)).toArray⟩ ∧ c = cdL m
theorem Chr.eq {x y : ByteArray} {c d : Int} (h : Chr x c) (k : Chr y d) : x = y ↔ c = d := by
  obtain ⟨m, hm, rfl, rfl⟩ := h
  obtain ⟨n, hn, rfl, rfl⟩ := k
  rw [take_inj hm hn]
  constructor
  · intro e
    injection e with e
    have := congrArg Array.toList e
    simpa using this
  · intro e; rw [e]
theorem Chr.low (y : UInt8) (hy : y.toNat < 128) : Chr ⟨#[y]⟩ y.toNat := ⟨[y], by simp, by rw [(cd_low y [] hy).1]; rfl, (cd_low y [] hy).2.symm⟩
/-- Two lists of characters, side by side. -/
def Chrs (xs : List ByteArray) (cs : List Int) : Prop := xs.length = cs.length ∧ ∀ i (h1 : i < xs.length) (h2 : i < cs.length), Chr xs[i] cs[i]
theorem chrs_all (l : List UInt8) : Chrs (pcB l) (chL l) := by
  refine by_chars (P := fun l => Chrs (pcB l) (chL l)) ?_ (fun l h ih => ?_) l
  · rw [pcB_nil, chL_nil]
    exact ⟨rfl, fun i h1 _ => by simp at h1⟩
  · obtain ⟨e1, e2⟩ := ih
    rw [pcB_cons h, chL_cons h]
    refine ⟨by simp [e1], fun i g1 g2 => ?_⟩
    match i, g1, g2 with
    | 0, _, _ => exact ⟨l, h, rfl, rfl⟩
    | i + 1, g1, g2 => exact e2 i (by simpa using g1) (by simpa using g2)
theorem str_beq (a b : ByteArray) : (a.toList == b.toList) = decide (a = b) := by
  by_cases h : a = b
  · rw [h, decide_eq_true rfl, beq_self_eq_true]
  · rw [decide_eq_false h, beq_eq_false_iff_ne]
    intro h2
    apply h
    rw [Lib.toList_data, Lib.toList_data] at h2
    rcases a with ⟨⟨a⟩⟩
    rcases b with ⟨⟨b⟩⟩
    simp only at h2
    rw [h2]
theorem infoQ : (Tryd.prog.info? 4).map (fun i => (i.zero, i.size, i.bytes)) = some (some (.bool false), 1, 1) := by kernel_rfl
theorem run_make_bools (n : Nat) (hb : n ≤ 281474976710656) (w : World) :
    (Instr.makeSlice 25 (.int .i64 (n : Int)) (.int .i64 (n : Int))).run Tryd.prog w = .ok (.slice (some ⟨w.heap.size, 0, none⟩) n n) (w.alloc (.cells (madeCells (Value.bool false).cells (n * 1)) 4)) := by
  obtain ⟨i, hi, hz0, hz1, hz2⟩ := info_parts infoQ
  have := run_make (P := Tryd.prog) w 25 4 i (.bool false) (by kernel_rfl) hi hz0 .i64 .i64 n n (by omega) (Int.le_refl _) (by rw [hz2]; omega) (by omega)
  simp only [Int.toNat_natCast, hz1] at this
  exact this
/-- The block g holds just these truth values. -/
def RowQ (w : World) (g : Nat) (bs : List Bool) : Prop := w.heap[g]? = some (.cells (bs.map Value.bool).toArray 4)
theorem RowQ.cell {w : World} {g : Nat} {bs : List Bool} (h : RowQ w g bs) (i : Nat) (hi : i < bs.length) : w.cell? ⟨g, i, none⟩ = some (.bool bs[i]) := by
  unfold World.cell?
  rw [h]
  simp [List.getElem?_eq_getElem hi]
theorem RowQ.free {w : World} {g : Nat} {bs : List Bool} (h : RowQ w g bs) (i : Nat) : w.frozen? ⟨g, i, none⟩ = false := by
  have h' : w.heap[g]? = some (.cells (bs.map Value.bool).toArray 4) := h
  simp [World.frozen?, h']
theorem RowQ.set {w : World} {g : Nat} {bs : List Bool} (h : RowQ w g bs) (i : Nat) (b : Bool) : RowQ (w.setCell ⟨g, i, none⟩ (.bool b)) g (bs.set i b) := by
  have hb : g < w.heap.size := (Array.getElem?_eq_some_iff.1 h).1
  have he := (Array.getElem?_eq_some_iff.1 h).2
  unfold RowQ
  show (w.heap.modify g _)[g]? = _
  rw [Array.getElem?_modify]
  simp [he, hb, List.map_set]
theorem RowQ.other {w : World} {g k : Nat} {bs : List Bool} (h : RowQ w g bs) (hk : g ≠ k) (i : Nat) (v : Value) : RowQ (w.setCell ⟨k, i, none⟩ v) g bs := by
  unfold RowQ
  rw [Below.heap_setCell w ⟨k, i, none⟩ v g hk]
  exact h
theorem RowQ.alloc {w : World} {g : Nat} {bs : List Bool} (h : RowQ w g bs) (o : Obj) : RowQ (w.alloc o) g bs := by
  have hb : g < w.heap.size := (Array.getElem?_eq_some_iff.1 h).1
  unfold RowQ
  rw [Below.heap_alloc w o g hb]
  exact h
theorem RowQ.lt {w : World} {g : Nat} {bs : List Bool} (h : RowQ w g bs) : g < w.heap.size := (Array.getElem?_eq_some_iff.1 h).1
theorem made_Q (w : World) (n : Nat) : RowQ (w.alloc (.cells (madeCells (Value.bool false).cells (n * 1)) 4)) w.heap.size (List.replicate n false) := by
  unfold RowQ
  have e : madeCells (Value.bool false).cells (n * 1) = ((List.replicate n false).map Value.bool).toArray := by
    apply Array.ext'
    simp only [madeCells, Value.cells]
    apply List.ext_getElem
    · simp
    · intro i h1 h2
      simp [Nat.mod_one]
  rw [e]
  show (w.heap.push _)[w.heap.size]? = _
  simp
/-- The values of S up to n. -/
def upS (S : Nat → Bool) (n : Nat) : List Bool := (List.range n).map S
theorem upS_len (S : Nat → Bool) (n : Nat) : (upS S n).length = n := by simp [upS]
theorem upS_get (S : Nat → Bool) (n i : Nat) (h : i < (upS S n).length) : (upS S n)[i] = S i := by simp [upS]
/-- A row that holds S up to i, and false behind. -/
def parS (S : Nat → Bool) (i n : Nat) : List Bool := upS S i ++ List.replicate (n - i) false
theorem parS_len (S : Nat → Bool) {i n : Nat} (h : i ≤ n) : (parS S i n).length = n := by
  unfold parS
  rw [List.length_append, upS_len, List.length_replicate]
  omega
theorem parS_set (S : Nat → Bool) {i n : Nat} (h : i < n) : (parS S i n).set i (S i) = parS S (i + 1) n := by
  unfold parS
  have e1 : n - i = (n - (i + 1)) + 1 := by omega
  rw [e1, List.replicate_succ, List.set_append_right _ _ (by rw [upS_len]; omega), upS_len, Nat.sub_self, List.set_cons_zero]
  rw [show upS S (i + 1) = upS S i ++ [S i] from by unfold upS; rw [List.range_succ, List.map_append]; rfl]
  simp
theorem parS_full (S : Nat → Bool) (n : Nat) : parS S n n = upS S n := by unfold parS; simp
theorem parS_zero (S : Nat → Bool) (n : Nat) : parS S 0 n = List.replicate n false := by unfold parS upS; simp
end Go.Proofs.YtfofionocnbohaaDoor
