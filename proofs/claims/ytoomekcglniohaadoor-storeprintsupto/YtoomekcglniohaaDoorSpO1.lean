import Derived.Test.YtoomekcglniohaaDoorSpL6
namespace Go.Proofs.YtoomekcglniohaaDoor
open Go.ChangeShapes Go.WideShapes Go.ChangeAt Go.RowKit
set_option linter.unusedVariables false
/-- How much a text, a value, a row, a reply weighs. -/
def mS (s : ByteArray) : Nat := s.size + 1
def mV (v : VL) : Nat := v.2.2.size + 4
def mL (row : List VL) : Nat := (row.map mV).sum + 1
def mI (_ : Int) : Nat := 1
def mR (r : RP) : Nat := (r.names.map mS).sum + (r.rows.map mL).sum + (r.nums.map mI).sum + 10
theorem tail_len (r : List (List UInt8)) : (Lib.joinTail [44, 32] r).length = (r.map fun x => x.length + 2).sum := by
  unfold Lib.joinTail
  induction r with
  | nil => rfl
  | cons x r ih =>
    rw [List.map_cons, List.map_cons, List.flatten_cons, List.length_append, ih, List.sum_cons, List.length_append]
    simp only [List.length_cons, List.length_nil]
    omega
theorem list_len (xs : List (List UInt8)) : (listL xs).length ≤ (xs.map fun x => x.length + 2).sum := by
  unfold listL
  cases xs with
  | nil => simp [Lib.join_nil]
  | cons x r =>
    rw [Lib.join_cons, List.length_append, tail_len, List.map_cons, List.sum_cons]
    omega
theorem sum_mono {α : Type} (f g : α → Nat) (xs : List α) (h : ∀ x ∈ xs, f x ≤ g x) : (xs.map f).sum ≤ (xs.map g).sum := by
  induction xs with
  | nil => simp
  | cons a xs ih =>
    rw [List.map_cons, List.map_cons, List.sum_cons, List.sum_cons]
    have := h a List.mem_cons_self
    have := ih (fun x hx => h x (List.mem_cons_of_mem _ hx))
    omega
theorem sum_mul {α : Type} (k : Nat) (f : α → Nat) (xs : List α) : (xs.map fun x => k * f x).sum = k * (xs.map f).sum := by
  induction xs with
  | nil => simp
  | cons a xs ih => rw [List.map_cons, List.map_cons, List.sum_cons, List.sum_cons, ih, Nat.mul_add]
theorem flat_sum {α : Type} (f : α → List UInt8) (xs : List α) : (xs.flatMap f).length = (xs.map fun x => (f x).length).sum := by
  induction xs with
  | nil => simp
  | cons a xs ih => rw [List.flatMap_cons, List.length_append, ih, List.map_cons, List.sum_cons]
theorem sum_mem {α : Type} (m : α → Nat) (xs : List α) (x : α) (h : x ∈ xs) : m x ≤ (xs.map m).sum := by
  induction xs with
  | nil => cases h
  | cons a xs ih =>
    rw [List.map_cons, List.sum_cons]
    rcases List.mem_cons.1 h with rfl | h
    · omega
    · have := ih h; omega
theorem sum_len {α : Type} (m : α → Nat) (xs : List α) (h : ∀ x ∈ xs, 1 ≤ m x) : xs.length ≤ (xs.map m).sum := by
  induction xs with
  | nil => simp
  | cons a xs ih =>
    rw [List.map_cons, List.sum_cons, List.length_cons]
    have := h a List.mem_cons_self
    have := ih (fun x hx => h x (List.mem_cons_of_mem _ hx))
    omega
theorem quot_len (s : ByteArray) : (quotL s).length + 2 ≤ 4 * mS s := by
  unfold quotL mS
  have h := quoL_len s.data.toList
  have h2 : s.data.toList.length = s.size := Array.length_toList
  rw [List.length_cons, List.length_append]
  simp only [List.length_cons, List.length_nil]
  omega
theorem val_len (v : VL) (h : I64 v.2.1) : (valL v).length + 2 ≤ 6 * mV v := by
  unfold valL mV
  have h3 := itoa_len v.2.1 h.1 (by have := h.2; omega)
  have h4 := quot_len v.2.2
  unfold mS at h4
  split
  · omega
  · split
    · omega
    · split
      · split <;> simp <;> omega
      · simp; omega
theorem row_len (row : List VL) (h : ∀ v ∈ row, I64 v.2.1) : (rowL row).length ≤ 6 * mL row := by
  unfold rowL mL
  have h1 := list_len (row.map valL)
  rw [List.map_map] at h1
  have h2 := sum_mono ((fun x : List UInt8 => x.length + 2) ∘ valL) (fun v => 6 * mV v) row (fun v hv => val_len v (h v hv))
  rw [sum_mul] at h2
  simp only [List.length_append, List.length_cons, List.length_nil]
  omega
theorem rep_len (r : RP) (h : ROK r) : (repL r).length ≤ 23 * mR r := by
  have hb : (begL r).length ≤ 70 := by
    unfold begL
    have h1 := itoa_len r.cmd h.cmd.1 (by have := h.cmd.2; omega)
    have h2 := head_len r.kind r.who h.who
    have h3 := code_len r.code h.code
    simp only [List.length_append, List.length_cons, List.length_nil]
    omega
  have he := end_len r.count r.stamp r.fin h.count h.stamp
  have ht : (tailL r).length ≤ 3 + 4 * (r.names.map mS).sum + 6 * (r.rows.map mL).sum := by
    unfold tailL
    split
    · simp
    · have h1 := list_len (r.names.map quotL)
      rw [List.map_map] at h1
      have h2 := sum_mono ((fun x : List UInt8 => x.length + 2) ∘ quotL) (fun s => 4 * mS s) r.names (fun s _ => quot_len s)
      rw [sum_mul] at h2
      have h3 : (r.rows.flatMap rowL).length ≤ 6 * (r.rows.map mL).sum := by
        rw [flat_sum, ← sum_mul]
        refine sum_mono _ _ _ (fun row hrow => row_len row (fun v hv => ?_))
        obtain ⟨i, hi, rfl⟩ := List.mem_iff_getElem.1 hrow
        obtain ⟨j, hj, rfl⟩ := List.mem_iff_getElem.1 hv
        exact ((h.rows i hi).2 j hj).2
      simp only [List.length_append, List.length_cons, List.length_nil]
      omega
  have hn : (r.nums.flatMap fun n => 32 :: Lib.itoa n).length ≤ 23 * (r.nums.map mI).sum := by
    rw [flat_sum, ← sum_mul]
    refine sum_mono _ _ _ (fun n hn => ?_)
    obtain ⟨i, hi, rfl⟩ := List.mem_iff_getElem.1 hn
    have := itoa_len r.nums[i] (h.nums i hi).1 (by have := (h.nums i hi).2; omega)
    rw [List.length_cons]
    unfold mI
    omega
  unfold repL mR
  rw [List.length_append]
  split
  · simp only [List.length_append, List.length_cons, List.length_nil]
    omega
  · simp only [List.length_append, List.length_cons, List.length_nil]
    omega
theorem print_len (rs : List RP) (h : ∀ r ∈ rs, ROK r) : (printL rs).length ≤ 23 * (rs.map mR).sum := by
  unfold printL
  rw [flat_sum, ← sum_mul]
  exact sum_mono _ _ _ (fun r hr => rep_len r (h r hr))
/-- The numbers of a reply are of 64 bits. -/
structure RB (r : RP) : Prop where
  cmd : I64 r.cmd
  who : I64 r.who
  code : I64 r.code
  count : I64 r.count
  stamp : 0 ≤ r.stamp ∧ r.stamp ≤ 18446744073709551615
  nums : ∀ n ∈ r.nums, I64 n
  rows : ∀ row ∈ r.rows, ∀ v ∈ row, I64 v.2.1
theorem RB.ok {r : RP} (h : RB r) (hm : mR r ≤ 1048576) : ROK r := by
  unfold mR at hm
  refine ⟨h.cmd, h.who, h.code, h.count, h.stamp, fun i hi => h.nums _ (List.getElem_mem hi), ?_, fun i hi => ?_, ?_, fun i hi => ⟨?_, fun j hj => ⟨?_, h.rows _ (List.getElem_mem hi) _ (List.getElem_mem hj)⟩⟩, ?_⟩
  · have := sum_len mI r.nums (fun _ _ => by unfold mI; omega); omega
  · have := sum_mem mS r.names _ (List.getElem_mem hi); have e : mS r.names[i] = r.names[i].size + 1 := rfl; omega
  · have := sum_len mS r.names (fun _ _ => by unfold mS; omega); omega
  · have h1 := sum_mem mL r.rows _ (List.getElem_mem hi)
    have h2 := sum_len mV r.rows[i] (fun _ _ => by unfold mV; omega)
    have e : mL r.rows[i] = (r.rows[i].map mV).sum + 1 := rfl
    omega
  · have h1 := sum_mem mL r.rows _ (List.getElem_mem hi)
    have h2 := sum_mem mV r.rows[i] _ (List.getElem_mem hj)
    have e : mL r.rows[i] = (r.rows[i].map mV).sum + 1 := rfl
    have e2 : mV r.rows[i][j] = r.rows[i][j].2.2.size + 4 := rfl
    omega
  · have := sum_len mL r.rows (fun _ _ => by unfold mL; omega); omega
end Go.Proofs.YtoomekcglniohaaDoor
