import Derived.Test.YtegnmflbbpfdhaaGreatSchP1
namespace Go.Proofs.YtegnmflbbpfdhaaGreat
open Go.ChangeShapes Go.WideShapes Go.ChangeAt Go.RowKit
set_option linter.unusedVariables false

/-- The pick that one byte alone stands for. -/
def one (b : Nat) : Int × Int × Int :=
  if b / 32 = 0 then (1, ((b % 32 : Nat) : Int), 1) else if b / 32 = 2 then (3, ((b % 32 : Nat) : Int), 1) else if b / 32 = 3 then (4, 0, ((b % 32 + 1 : Nat) : Int)) else if b / 32 = 4 then (5, ((b % 32 : Nat) : Int), 1) else if b = 160 then (6, 0, 0) else (0, 0, (b : Int))
/-- The first entry of a schedule, and its size. -/
def ent : List UInt8 → (Int × Int × Int) × Nat
  | [] => ((0, 0, 0), 0)
  | [b] => (one b.toNat, 1)
  | b :: c :: _ => if b.toNat / 32 = 1 then ((2, ((b.toNat % 32 : Nat) : Int), ((c.toNat + 1 : Nat) : Int)), 2) else (one b.toNat, 1)
/-- What a schedule is read as. -/
def dL : List UInt8 → List (Int × Int × Int)
  | [] => []
  | [b] => [one b.toNat]
  | b :: c :: r => if b.toNat / 32 = 1 then (2, ((b.toNat % 32 : Nat) : Int), ((c.toNat + 1 : Nat) : Int)) :: dL r else one b.toNat :: dL (c :: r)
theorem dL_step (l : List UInt8) (h : l ≠ []) : dL l = (ent l).1 :: dL (l.drop (ent l).2) ∧ 0 < (ent l).2 ∧ (ent l).2 ≤ l.length := by
  match l, h with
  | [b], _ => simp [dL, ent]
  | b :: c :: r, _ =>
    by_cases h1 : b.toNat / 32 = 1
    · simp [dL, ent, h1]
    · simp [dL, ent, h1]
theorem dL_len : ∀ (n : Nat) (l : List UInt8), l.length ≤ n → (dL l).length ≤ l.length ∧ l.length ≤ 2 * (dL l).length
  | _, [], _ => by simp [dL]
  | _, [b], _ => by simp [dL]
  | n + 1, b :: c :: r, h => by
    simp only [List.length_cons] at h
    by_cases h1 : b.toNat / 32 = 1
    · have := dL_len n r (by omega)
      simp [dL, h1]; omega
    · have := dL_len n (c :: r) (by simp; omega)
      simp [dL, h1] at this ⊢; omega
theorem ent_one (l : List UInt8) (b : UInt8) (r : List UInt8) (hl : l = b :: r) (h : b.toNat / 32 ≠ 1 ∨ r = []) : ent l = (one b.toNat, 1) := by
  subst hl
  match r, h with
  | [], _ => rfl
  | c :: r, h => rcases h with h | h
                 · simp [ent, h]
                 · simp at h
theorem ent_two (l : List UInt8) (b c : UInt8) (r : List UInt8) (hl : l = b :: c :: r) (h : b.toNat / 32 = 1) : ent l = ((2, ((b.toNat % 32 : Nat) : Int), ((c.toNat + 1 : Nat) : Int)), 2) := by
  subst hl; simp [ent, h]
theorem list0 (t : ByteArray) (h : 0 < t.size) : t.data.toList = t[0] :: t.data.toList.drop 1 := by
  have : 0 < t.data.toList.length := by simpa using h
  have e := List.getElem_cons_drop this
  rw [List.drop_zero] at e
  rw [← e]
  simp [ByteArray.getElem_eq_getElem_data]
theorem list1 (t : ByteArray) (h : 1 < t.size) : t.data.toList = t[0] :: t[1] :: t.data.toList.drop 2 := by
  have h1 : 1 < t.data.toList.length := by simpa using h
  have e := List.getElem_cons_drop h1
  have e0 := list0 t (by omega)
  rw [← e] at e0
  rw [e0]
  simp [ByteArray.getElem_eq_getElem_data]
theorem ret_pick {fn : Func} {p u : Tmp} (h : fn.results = #[.cell p 113, .tmp u]) (tmps : Array Value) (w : World) (a b c : Int) (g : Nat) (hp : tmps.getD p undef = .pointer (some ⟨g, 0, none⟩)) (hg : w.heap[g]? = some (.cells #[.int .i64 a, .int .i64 b, .int .i64 c] 113 (0, 0))) :
    (results fn tmps).run Tryz.prog w = .ok (.tuple #[.agg #[.int .i64 a, .int .i64 b, .int .i64 c], tmps.getD u undef]) w := by
  have hp' : tmps[p]?.getD undef = .pointer (some ⟨g, 0, none⟩) := by simpa using hp
  have hi : (Tryz.prog.info? 113).map (·.size) = some 3 := by kernel_rfl
  simp [results, h, hp', asAddr, run_loadVar_row w g 113 113 _ (0, 0) _ hg Tryz.underlying113 rfl hi]
/-- What entry answers. -/
def entA (r : (Int × Int × Int) × Nat) : Value := .tuple #[.agg #[.int .i64 r.1.1, .int .i64 r.1.2.1, .int .i64 r.1.2.2], .int .i64 (r.2 : Int)]
set_option maxRecDepth 100000 in
set_option maxHeartbeats 3200000 in
theorem entry_any (t : ByteArray) (w : World) (h0 : 0 < t.size) (hs : t.size ≤ 1125899906842624) :
    Calls Tryz.prog 65 #[.string t] w fun e w' => e = .returned (entA (ent t.data.toList)) ∧ Below w.heap.size w w' := by
  have hb := t[0].toNat_lt
  have hl0 := list0 t h0
  by_cases c1 : t[0].toNat / 32 = 1
  · have c1' : ((t[0].toNat : Nat) : Int) / 32 = 1 := by omega
    by_cases c2 : 1 < t.size
    · have HE : Hid _ := ent_two _ t[0] t[1] _ (list1 t c2) c1
      have hc := t[1].toNat_lt
      have c2' : (1 : Int) < (t.size : Int) := by omega
      clear hl0 c1
      go_enter Tryz.func65, Tryz.ntmps65
      go_wp2
      exact bodyPost_ret (ret_pick rfl _ _ _ _ _ w.heap.size (by rfl) (heap_alloc_new w _)) rfl ⟨by rw [HE.out]; simp [entA], (Below.refl _ _).alloc (Nat.le_refl _) _⟩
    · have hz : t.size = 1 := by omega
      have hn : t.data.toList.drop 1 = [] := List.drop_eq_nil_of_le (by simp; exact Nat.le_of_eq hz)
      have HE : Hid (ent t.data.toList = (((0, 0, (t[0].toNat : Int)) : Int × Int × Int), (1 : Nat))) := by
        show _ = _
        rw [ent_one _ t[0] _ hl0 (.inr hn)]
        unfold one
        rw [if_neg (by omega), if_neg (by omega), if_neg (by omega), if_neg (by omega), if_neg (by omega)]
      have c2' : ¬ (1 : Int) < (t.size : Int) := by omega
      have c3 : (((t[0].toNat : Nat) : Int) == 160) = false := by simp; omega
      clear hl0 c1 hn
      go_enter Tryz.func65, Tryz.ntmps65
      go_wp2
      exact bodyPost_ret (ret_pick rfl _ _ _ _ _ w.heap.size (by rfl) (heap_alloc_new w _)) rfl ⟨by rw [HE.out]; simp [entA], (Below.refl _ _).alloc (Nat.le_refl _) _⟩
  · have he := ent_one _ t[0] _ hl0 (.inl c1)
    clear hl0
    by_cases o0 : t[0].toNat / 32 = 0
    case' pos =>
      have HE : Hid (ent t.data.toList = (((1, ((t[0].toNat % 32 : Nat) : Int), 1) : Int × Int × Int), (1 : Nat))) := by show _ = _; rw [he]; unfold one; rw [if_pos o0]
      have o' : ((t[0].toNat : Nat) : Int) / 32 = 0 := by omega
    case' neg =>
      by_cases o2 : t[0].toNat / 32 = 2
      case' pos =>
        have HE : Hid (ent t.data.toList = (((3, ((t[0].toNat % 32 : Nat) : Int), 1) : Int × Int × Int), (1 : Nat))) := by show _ = _; rw [he]; unfold one; rw [if_neg o0, if_pos o2]
        have o' : ((t[0].toNat : Nat) : Int) / 32 = 2 := by omega
      case' neg =>
        by_cases o3 : t[0].toNat / 32 = 3
        case' pos =>
          have HE : Hid (ent t.data.toList = (((4, 0, ((t[0].toNat % 32 + 1 : Nat) : Int)) : Int × Int × Int), (1 : Nat))) := by show _ = _; rw [he]; unfold one; rw [if_neg o0, if_neg o2, if_pos o3]
          have o' : ((t[0].toNat : Nat) : Int) / 32 = 3 := by omega
        case' neg =>
          by_cases o4 : t[0].toNat / 32 = 4
          case' pos =>
            have HE : Hid (ent t.data.toList = (((5, ((t[0].toNat % 32 : Nat) : Int), 1) : Int × Int × Int), (1 : Nat))) := by show _ = _; rw [he]; unfold one; rw [if_neg o0, if_neg o2, if_neg o3, if_pos o4]
            have o' : ((t[0].toNat : Nat) : Int) / 32 = 4 := by omega
          case' neg =>
            have q0 : (((t[0].toNat : Nat) : Int) / 32 == 0) = false := by simp; omega
            have q1 : (((t[0].toNat : Nat) : Int) / 32 == 1) = false := by simp; omega
            have q2 : (((t[0].toNat : Nat) : Int) / 32 == 2) = false := by simp; omega
            have q3 : (((t[0].toNat : Nat) : Int) / 32 == 3) = false := by simp; omega
            have q4 : (((t[0].toNat : Nat) : Int) / 32 == 4) = false := by simp; omega
            by_cases o5 : t[0].toNat = 160
            case' pos =>
              have HE : Hid (ent t.data.toList = (((6, 0, 0) : Int × Int × Int), (1 : Nat))) := by show _ = _; rw [he]; unfold one; rw [if_neg o0, if_neg o2, if_neg o3, if_neg o4, if_pos o5]
              have o' : ((t[0].toNat : Nat) : Int) = 160 := by omega
              clear q0 q1 q2 q3 q4
            case' neg =>
              have HE : Hid (ent t.data.toList = (((0, 0, (t[0].toNat : Int)) : Int × Int × Int), (1 : Nat))) := by show _ = _; rw [he]; unfold one; rw [if_neg o0, if_neg o2, if_neg o3, if_neg o4, if_neg o5]
              have o' : (((t[0].toNat : Nat) : Int) == 160) = false := by simp; omega
    all_goals
      clear he
      clear c1
      try clear o0
      try clear o2
      try clear o3
      try clear o4
      try clear o5
      go_enter Tryz.func65, Tryz.ntmps65
      go_wp2
      exact bodyPost_ret (ret_pick rfl _ _ _ _ _ w.heap.size (by rfl) (heap_alloc_new w _)) rfl ⟨by rw [HE.out]; simp [entA], (Below.refl _ _).alloc (Nat.le_refl _) _⟩
end Go.Proofs.YtegnmflbbpfdhaaGreat
