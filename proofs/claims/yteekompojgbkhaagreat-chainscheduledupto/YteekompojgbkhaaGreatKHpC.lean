import Derived.Test.YteekompojgbkhaaGreatRows
import Derived.WalkKit
import Derived.ProofKit
import Derived.OpenShut
import Derived.ShutString
import Derived.WalkLawsBesides
import Derived.Outline
import Derived.WalkSpells
import Derived.BigRegion
import Derived.Deep.QuietTactic
import Derived.BigQuiet
import Derived.Deep.RegionWith
import Derived.Deep.RegionHeld3
import Derived.Laws.BitsAllLaws
import Derived.Lib.Bytealg
import Derived.Lib.Strings
import Derived.Laws.Externs
import Derived.Laws.OwnMore
import Derived.Laws.StructEq
import Derived.Laws.Small
import Derived.Laws.Rows
import Derived.OwnWalk
import Derived.Below
namespace Go.Proofs.YteekompojgbkhaaGreat
open Go.ChangeShapes Go.WideShapes Go.ChangeAt Go.RowKit
set_option linter.unusedVariables false

/-- The slice value v holds the picks vs, in blocks below B. -/
def SeesP (w : World) (B : Nat) (v : Value) (vs : List (Int × Int × Int)) : Prop :=
  ∃ ao cap, v = .slice ao vs.length cap ∧ vs.length ≤ cap ∧ vs.length ≤ 140737488355328 ∧ (∀ i (hi : i < vs.length), ∃ b off, ao = some ⟨b, off, none⟩ ∧ b < B ∧ w.cell? ⟨b, off + i * 3, none⟩ = some (.int .i64 vs[i].1) ∧ w.cell? ⟨b, off + i * 3 + 1, none⟩ = some (.int .i64 vs[i].2.1) ∧ w.cell? ⟨b, off + i * 3 + 2, none⟩ = some (.int .i64 vs[i].2.2))
theorem SeesP.later {w w' : World} {B : Nat} {v : Value} {vs : List (Int × Int × Int)} (h : SeesP w B v vs) (hb : Below B w w') : SeesP w' B v vs := by
  obtain ⟨ao, cap, rfl, h1, h2, h3⟩ := h
  refine ⟨ao, cap, rfl, h1, h2, fun i hi => ?_⟩
  obtain ⟨b, off, e, hbB, c0, c1, c2⟩ := h3 i hi
  exact ⟨b, off, e, hbB, by rw [hb.cell hbB]; exact c0, by rw [hb.cell hbB]; exact c1, by rw [hb.cell hbB]; exact c2⟩
theorem SeesP.mono {w : World} {B B' : Nat} {v : Value} {vs : List (Int × Int × Int)} (h : SeesP w B v vs) (hb : B ≤ B') : SeesP w B' v vs := by
  obtain ⟨ao, cap, rfl, h1, h2, h3⟩ := h
  refine ⟨ao, cap, rfl, h1, h2, fun i hi => ?_⟩
  obtain ⟨b, off, e, hbB, c0, c1, c2⟩ := h3 i hi
  exact ⟨b, off, e, by omega, c0, c1, c2⟩
theorem infoPk1 : (Tryz.prog.info? 110).map (fun i => (i.zero, i.size, i.bytes)) = some (some (.agg #[.int .i64 0, .int .i64 0, .int .i64 0]), 3, 24) := by kernel_rfl
def cellP (a : Int × Int × Int) : List Value := [.int .i64 a.1, .int .i64 a.2.1, .int .i64 a.2.2]
def cellsP (vs : List (Int × Int × Int)) : List Value := vs.flatMap cellP
theorem cellsP_get : ∀ (vs : List (Int × Int × Int)) (i : Nat) (hi : i < vs.length), (cellsP vs)[i * 3]? = some (.int .i64 vs[i].1) ∧ (cellsP vs)[i * 3 + 1]? = some (.int .i64 vs[i].2.1) ∧ (cellsP vs)[i * 3 + 2]? = some (.int .i64 vs[i].2.2)
  | v :: vs, 0, _ => by simp [cellsP, cellP]
  | v :: vs, i + 1, hi => by
    have := cellsP_get vs i (by simp at hi; omega)
    have e : cellsP (v :: vs) = .int .i64 v.1 :: .int .i64 v.2.1 :: .int .i64 v.2.2 :: cellsP vs := rfl
    rw [e, show (i + 1) * 3 = i * 3 + 1 + 1 + 1 from by omega]
    simpa using this
/-- The slice value v holds just the values vs, in a row of the call's own. -/
def ownP (w : World) (B : Nat) (v : Value) (vs : List (Int × Int × Int)) : Prop := w.ownsRow B 110 3 v vs.length (cellsP vs)
theorem ownP_nil (w : World) (B : Nat) : ownP w B (.slice none 0 0) [] := World.ownsRow_nil _ _ _ _
theorem app_pick {wr : World} {ops : Array Oper} {rest : List Oper} {o : Oper} {a : Act} {Q : Exit → Act → World → Prop} (hgd : o.guard = none) (s x : Operand)
    (ho : o.op = .call { callee := .builtin .append, args := #[s, x], argTypes := #[65, 65] })
    (B : Nat) (v : Value) (vs : List (Int × Int × Int)) (c : Int × Int × Int) (hown : ownP wr B v vs) (hs : a.eval s = v) (g : Nat) (hg : g = wr.heap.size) (hx : a.eval x = .slice (some ⟨g, 0, none⟩) 1 1)
    (hlen : (vs.length + 1) * 24 ≤ 140737488355328) (hB : B ≤ wr.heap.size)
    (h : ∀ v' w', ownP w' B v' (vs ++ [c]) → Below B wr w' → wpList Tryz.prog ops Q rest (a.put o.dst v') w') :
    wpList Tryz.prog ops Q (o :: rest) a (wr.alloc (.cells #[.int .i64 c.1, .int .i64 c.2.1, .int .i64 c.2.2] 110)) := by
  subst hg
  obtain ⟨i0, hi, hz0, hz1, hz2⟩ := info_parts infoPk1
  refine wpList_append_own _ hgd s x 65 ho B 110 i0 (.agg #[.int .i64 0, .int .i64 0, .int .i64 0]) 3 24 Tryz.underlying65 hi hz0 hz1 hz2 rfl (by decide) v vs.length _ hs (World.ownsRow.alloc hown _)
    ⟨wr.heap.size, 0, none⟩ 1 1 (cellP c) hx rfl ?_ ?_ (by unfold maxLen; omega) (by omega) (by simp; omega) ?_
  · intro j u hj
    match j, hj with
    | 0, hj => simp [cellP] at hj; subst hj; simp [Addr.add]
    | 1, hj => simp [cellP] at hj; subst hj; simp [Addr.add]
    | 2, hj => simp [cellP] at hj; subst hj; simp [Addr.add]
  · intro u hu; simp [cellP] at hu; rcases hu with rfl | rfl | rfl <;> rfl
  · intro v' w' hown' hgrow _
    refine h v' w' ?_ ?_
    · have : (vs ++ [c]).length = vs.length + 1 := by simp
      unfold ownP; rw [this, show cellsP (vs ++ [c]) = cellsP vs ++ cellP c from by simp [cellsP]]; exact hown'
    · exact ((Below.refl _ _).alloc hB _).grown hgrow (by simp; omega) (fun k hk => (World.ownsRow.lt hown k hk).1)

set_option maxRecDepth 100000 in
theorem ownP.len {w : World} {B : Nat} {v : Value} {xs : List (Int × Int × Int)} (h : ownP w B v xs) : (Builtin.len_ #[65] 3 #[v]).run Tryz.prog w = .ok (.int .i64 xs.length) w := by
  rcases h with ⟨h1, ⟨rfl, h2⟩ | ⟨g, cap, cur, rfl, hb, hg, hr⟩⟩
  · rw [h2]; rfl
  · rfl
theorem ownP.same {w w' : World} {B : Nat} {v : Value} {xs : List (Int × Int × Int)} (h : ownP w B v xs) (hk : ∀ k, k < w.heap.size → B ≤ k → w'.heap[k]? = w.heap[k]?) : ownP w' B v xs := by
  rcases h with ⟨h1, h2 | ⟨g, cap, cur, rfl, hb, hg, hr⟩⟩
  · exact ⟨h1, .inl h2⟩
  · exact ⟨h1, .inr ⟨g, cap, cur, rfl, hb, by rw [hk g (Array.getElem?_eq_some_iff.1 hg).1 hb]; exact hg, hr⟩⟩
theorem ownP.down {w : World} {B B' : Nat} {v : Value} {vs : List (Int × Int × Int)} (h : ownP w B v vs) (hB : B' ≤ B) : ownP w B' v vs := by
  rcases h with ⟨h1, h2 | ⟨g, cap, cur, rfl, hb, hr⟩⟩
  · exact ⟨h1, .inl h2⟩
  · exact ⟨h1, .inr ⟨g, cap, cur, rfl, Nat.le_trans hB hb, hr⟩⟩
end Go.Proofs.YteekompojgbkhaaGreat

namespace Go.Proofs.YteekompojgbkhaaGreat
open Go.ChangeShapes Go.WideShapes Go.ChangeAt Go.RowKit
set_option linter.unusedVariables false

/-- The pick that one byte alone stands for. -/
def one (b : Nat) : Int × Int × Int :=
  if b / 32 = 0 then (1, ((b % 32 : Nat) : Int), 1) else if b / 32 = 2 then (3, ((b % 32 : Nat) : Int), 1) else if b / 32 = 3 then (4, 0, ((b % 32 + 1 : Nat) : Int)) else if b / 32 = 4 then (5, ((b % 32 : Nat) : Int), 1) else if b = 160 then (6, 0, 0) else (0, 0, (b : Int))
/-- The first entry of a schedule, and its size. -/
def ent : List UInt8 → (Int × Int × Int) × Nat
  | [] => ((0, 0, 0), 0)
  | [b] => (one b.toNat, 1)
  | b :: c :: _ => if b.toNat / 32 = 1 then ((2, ((b.toNat % 32 : Nat) : Int), ((c.toNat + 1 : Nat) : Int)), 2) else (one b.toNat, 1)
/-- What a schedule is read as. -/
def dL : List UInt8 → List (Int × Int × Int)
  | [] => []
  | [b] => [one b.toNat]
  | b :: c :: r => if b.toNat / 32 = 1 then (2, ((b.toNat % 32 : Nat) : Int), ((c.toNat + 1 : Nat) : Int)) :: dL r else one b.toNat :: dL (c :: r)
theorem dL_step (l : List UInt8) (h : l ≠ []) : dL l = (ent l).1 :: dL (l.drop (ent l).2) ∧ 0 < (ent l).2 ∧ (ent l).2 ≤ l.length := by
  match l, h with
  | [b], _ => simp [dL, ent]
  | b :: c :: r, _ =>
    by_cases h1 : b.toNat / 32 = 1
    · simp [dL, ent, h1]
    · simp [dL, ent, h1]
theorem dL_len : ∀ (n : Nat) (l : List UInt8), l.length ≤ n → (dL l).length ≤ l.length ∧ l.length ≤ 2 * (dL l).length
  | _, [], _ => by simp [dL]
  | _, [b], _ => by simp [dL]
  | n + 1, b :: c :: r, h => by
    simp only [List.length_cons] at h
    by_cases h1 : b.toNat / 32 = 1
    · have := dL_len n r (by omega)
      simp [dL, h1]; omega
    · have := dL_len n (c :: r) (by simp; omega)
      simp [dL, h1] at this ⊢; omega
theorem ent_one (l : List UInt8) (b : UInt8) (r : List UInt8) (hl : l = b :: r) (h : b.toNat / 32 ≠ 1 ∨ r = []) : ent l = (one b.toNat, 1) := by
  subst hl
  match r, h with
  | [], _ => rfl
  | c :: r, h => rcases h with h | h
                 · simp [ent, h]
                 · simp at h
theorem ent_two (l : List UInt8) (b c : UInt8) (r : List UInt8) (hl : l = b :: c :: r) (h : b.toNat / 32 = 1) : ent l = ((2, ((b.toNat % 32 : Nat) : Int), ((c.toNat + 1 : Nat) : Int)), 2) := by
  subst hl; simp [ent, h]
theorem list0 (t : ByteArray) (h : 0 < t.size) : t.data.toList = t[0] :: t.data.toList.drop 1 := by
  have : 0 < t.data.toList.length := by simpa using h
  have e := List.getElem_cons_drop this
  rw [List.drop_zero] at e
  rw [← e]
  simp [ByteArray.getElem_eq_getElem_data]
theorem list1 (t : ByteArray) (h : 1 < t.size) : t.data.toList = t[0] :: t[1] :: t.data.toList.drop 2 := by
  have h1 : 1 < t.data.toList.length := by simpa using h
  have e := List.getElem_cons_drop h1
  have e0 := list0 t (by omega)
  rw [← e] at e0
  rw [e0]
  simp [ByteArray.getElem_eq_getElem_data]
theorem ret_pick {fn : Func} {p u : Tmp} (h : fn.results = #[.cell p 110, .tmp u]) (tmps : Array Value) (w : World) (a b c : Int) (g : Nat) (hp : tmps.getD p undef = .pointer (some ⟨g, 0, none⟩)) (hg : w.heap[g]? = some (.cells #[.int .i64 a, .int .i64 b, .int .i64 c] 110 (0, 0))) :
    (results fn tmps).run Tryz.prog w = .ok (.tuple #[.agg #[.int .i64 a, .int .i64 b, .int .i64 c], tmps.getD u undef]) w := by
  have hp' : tmps[p]?.getD undef = .pointer (some ⟨g, 0, none⟩) := by simpa using hp
  have hi : (Tryz.prog.info? 110).map (·.size) = some 3 := by kernel_rfl
  simp [results, h, hp', asAddr, run_loadVar_row w g 110 110 _ (0, 0) _ hg Tryz.underlying110 rfl hi]
/-- What entry answers. -/
def entA (r : (Int × Int × Int) × Nat) : Value := .tuple #[.agg #[.int .i64 r.1.1, .int .i64 r.1.2.1, .int .i64 r.1.2.2], .int .i64 (r.2 : Int)]
set_option maxRecDepth 100000 in
set_option maxHeartbeats 3200000 in
theorem entry_any (t : ByteArray) (w : World) (h0 : 0 < t.size) (hs : t.size ≤ 1125899906842624) :
    Calls Tryz.prog 50 #[.string t] w fun e w' => e = .returned (entA (ent t.data.toList)) ∧ Below w.heap.size w w' := by
  have hb := t[0].toNat_lt
  have hl0 := list0 t h0
  by_cases c1 : t[0].toNat / 32 = 1
  · have c1' : ((t[0].toNat : Nat) : Int) / 32 = 1 := by omega
    by_cases c2 : 1 < t.size
    · have HE : Hid _ := ent_two _ t[0] t[1] _ (list1 t c2) c1
      have hc := t[1].toNat_lt
      have c2' : (1 : Int) < (t.size : Int) := by omega
      clear hl0 c1
      go_enter Tryz.func50, Tryz.ntmps50
      go_wp2
      exact bodyPost_ret (ret_pick rfl _ _ _ _ _ w.heap.size (by rfl) (heap_alloc_new w _)) rfl ⟨by rw [HE.out]; simp [entA], (Below.refl _ _).alloc (Nat.le_refl _) _⟩
    · have hz : t.size = 1 := by omega
      have hn : t.data.toList.drop 1 = [] := List.drop_eq_nil_of_le (by simp; exact Nat.le_of_eq hz)
      have HE : Hid (ent t.data.toList = (((0, 0, (t[0].toNat : Int)) : Int × Int × Int), (1 : Nat))) := by
        show _ = _
        rw [ent_one _ t[0] _ hl0 (.inr hn)]
        unfold one
        rw [if_neg (by omega), if_neg (by omega), if_neg (by omega), if_neg (by omega), if_neg (by omega)]
      have c2' : ¬ (1 : Int) < (t.size : Int) := by omega
      have c3 : (((t[0].toNat : Nat) : Int) == 160) = false := by simp; omega
      clear hl0 c1 hn
      go_enter Tryz.func50, Tryz.ntmps50
      go_wp2
      exact bodyPost_ret (ret_pick rfl _ _ _ _ _ w.heap.size (by rfl) (heap_alloc_new w _)) rfl ⟨by rw [HE.out]; simp [entA], (Below.refl _ _).alloc (Nat.le_refl _) _⟩
  · have he := ent_one _ t[0] _ hl0 (.inl c1)
    clear hl0
    by_cases o0 : t[0].toNat / 32 = 0
    case' pos =>
      have HE : Hid (ent t.data.toList = (((1, ((t[0].toNat % 32 : Nat) : Int), 1) : Int × Int × Int), (1 : Nat))) := by show _ = _; rw [he]; unfold one; rw [if_pos o0]
      have o' : ((t[0].toNat : Nat) : Int) / 32 = 0 := by omega
    case' neg =>
      by_cases o2 : t[0].toNat / 32 = 2
      case' pos =>
        have HE : Hid (ent t.data.toList = (((3, ((t[0].toNat % 32 : Nat) : Int), 1) : Int × Int × Int), (1 : Nat))) := by show _ = _; rw [he]; unfold one; rw [if_neg o0, if_pos o2]
        have o' : ((t[0].toNat : Nat) : Int) / 32 = 2 := by omega
      case' neg =>
        by_cases o3 : t[0].toNat / 32 = 3
        case' pos =>
          have HE : Hid (ent t.data.toList = (((4, 0, ((t[0].toNat % 32 + 1 : Nat) : Int)) : Int × Int × Int), (1 : Nat))) := by show _ = _; rw [he]; unfold one; rw [if_neg o0, if_neg o2, if_pos o3]
          have o' : ((t[0].toNat : Nat) : Int) / 32 = 3 := by omega
        case' neg =>
          by_cases o4 : t[0].toNat / 32 = 4
          case' pos =>
            have HE : Hid (ent t.data.toList = (((5, ((t[0].toNat % 32 : Nat) : Int), 1) : Int × Int × Int), (1 : Nat))) := by show _ = _; rw [he]; unfold one; rw [if_neg o0, if_neg o2, if_neg o3, if_pos o4]
            have o' : ((t[0].toNat : Nat) : Int) / 32 = 4 := by omega
          case' neg =>
            have q0 : (((t[0].toNat : Nat) : Int) / 32 == 0) = false := by simp; omega
            have q1 : (((t[0].toNat : Nat) : Int) / 32 == 1) = false := by simp; omega
            have q2 : (((t[0].toNat : Nat) : Int) / 32 == 2) = false := by simp; omega
            have q3 : (((t[0].toNat : Nat) : Int) / 32 == 3) = false := by simp; omega
            have q4 : (((t[0].toNat : Nat) : Int) / 32 == 4) = false := by simp; omega
            by_cases o5 : t[0].toNat = 160
            case' pos =>
              have HE : Hid (ent t.data.toList = (((6, 0, 0) : Int × Int × Int), (1 : Nat))) := by show _ = _; rw [he]; unfold one; rw [if_neg o0, if_neg o2, if_neg o3, if_neg o4, if_pos o5]
              have o' : ((t[0].toNat : Nat) : Int) = 160 := by omega
              clear q0 q1 q2 q3 q4
            case' neg =>
              have HE : Hid (ent t.data.toList = (((0, 0, (t[0].toNat : Int)) : Int × Int × Int), (1 : Nat))) := by show _ = _; rw [he]; unfold one; rw [if_neg o0, if_neg o2, if_neg o3, if_neg o4, if_neg o5]
              have o' : (((t[0].toNat : Nat) : Int) == 160) = false := by simp; omega
    all_goals
      clear he
      clear c1
      try clear o0
      try clear o2
      try clear o3
      try clear o4
      try clear o5
      go_enter Tryz.func50, Tryz.ntmps50
      go_wp2
      exact bodyPost_ret (ret_pick rfl _ _ _ _ _ w.heap.size (by rfl) (heap_alloc_new w _)) rfl ⟨by rw [HE.out]; simp [entA], (Below.refl _ _).alloc (Nat.le_refl _) _⟩
end Go.Proofs.YteekompojgbkhaaGreat

namespace Go.Proofs.YteekompojgbkhaaGreat
open Go.ChangeShapes Go.WideShapes Go.ChangeAt Go.RowKit
set_option linter.unusedVariables false

def strLen : Value → Nat
  | .string t => t.size
  | _ => 0
theorem len_list (t : ByteArray) : t.data.toList.length = t.size := by rw [Array.length_toList]; rfl
theorem ext_list (t : ByteArray) (n : Nat) : (t.extract n t.size).data.toList = t.data.toList.drop n := by
  rw [Lib.extract_data, List.take_of_length_le (by simp)]
theorem ext_len (t : ByteArray) (n : Nat) (h : n ≤ t.size) : (t.extract n t.size).size = t.size - n := by rw [ByteArray.size_extract]; omega
set_option maxRecDepth 100000 in
set_option maxHeartbeats 3200000 in
theorem decode_any (s : ByteArray) (w : World) (hs : s.size ≤ 1466015503360) :
    Calls Tryz.prog 28 #[.string s] w fun e w' => ∃ v, e = .returned v ∧ ownP w' w.heap.size v (dL s.data.toList) ∧ Below w.heap.size w w' := by
  go_enter Tryz.func28, Tryz.ntmps28
  go_wp2_with fail
  go_loopw [0, 3] (fun sc c wr => ∃ (t : ByteArray) (acc : List (Int × Int × Int)), sc = .string t ∧ acc.length + t.size ≤ s.size ∧ ownP wr w.heap.size c acc ∧ Below w.heap.size w wr ∧ acc ++ dL t.data.toList = dL s.data.toList) (fun sc _ _ => strLen sc)
  case atStart => exact ⟨s, [], rfl, by simp, ownP_nil _ _, Below.refl _ _, rfl⟩
  case round =>
    obtain ⟨t, acc, rfl, hlen, hown, hbel, hv⟩ := hrel
    have HV : Hid (acc ++ dL t.data.toList = dL s.data.toList) := hv
    have HO : Hid (ownP wr w.heap.size _ acc) := hown
    have HB : Hid (Below w.heap.size w wr) := hbel
    clear hv hown hbel
    by_cases hl : 0 < t.size
    · have hl' : (0 : Int) < (t.size : Int) := by omega
      have hne : t.data.toList ≠ [] := by intro e; have h2 := len_list t; rw [e] at h2; simp at h2; omega
      obtain ⟨d1, d2, d3⟩ := dL_step t.data.toList hne
      have d3' : (ent t.data.toList).2 ≤ t.size := by simpa using d3
      have hE := entry_any t wr hl (by omega)
      have HD : Hid _ := d1
      have HE : Hid _ := ext_list t (ent t.data.toList).2
      have HZ : Hid _ := ext_len t (ent t.data.toList).2 d3'
      clear d1 d3 hne
      go_wp2_with fail
      refine hE.mono ?_
      rintro e w1 ⟨rfl, hb1⟩
      have HO2 : Hid (∀ o, ownP (w1.alloc o) w.heap.size _ acc) := fun o => HO.out.same (fun k hk _ => (Below.heap_alloc w1 o k (Nat.lt_of_lt_of_le hk hb1.size)).trans (hb1.block k hk))
      have HO1 : Hid (ownP w1 w.heap.size _ acc) := HO.out.same (fun k hk _ => hb1.block k hk)
      have HB1 : Hid (Below w.heap.size w w1) := HB.out.trans (hb1.mono HB.out.size)
      have HB2 : Hid (∀ o, Below w.heap.size w (w1.alloc o)) := fun o => HB1.out.alloc HB1.out.size o
      clear hb1 HO HB hE
      generalize ent t.data.toList = r at *
      obtain ⟨⟨k, i, n⟩, m⟩ := r
      simp only at d2 d3'
      unfold entA
      simp only
      have hal : (acc.length + 1) * 24 ≤ 140737488355328 := by omega
      have d3i : (m : Int) ≤ (t.size : Int) := by omega
      go_wp2_with (at_builtin; first | (refine app_pick (by rfl) _ _ (by rfl) w.heap.size _ acc (k, i, n) (HO2.out _) (by rfl) (w1.heap.size + 1) (by simp) (by rfl) hal (HB2.out _).size ?_; intro v' w6 hown6 hbel6; have HO6 : Hid (ownP w6 w.heap.size v' (acc ++ [(k, i, n)])) := hown6; have HB6 : Hid (Below w.heap.size w w6) := (HB2.out _).trans hbel6; clear hown6 hbel6) | (refine app_pick (by rfl) _ _ (by rfl) w.heap.size _ acc (k, i, n) HO1.out (by rfl) w1.heap.size (by rfl) (by rfl) hal HB1.out.size ?_; intro v' w6 hown6 hbel6; have HO6 : Hid (ownP w6 w.heap.size v' (acc ++ [(k, i, n)])) := hown6; have HB6 : Hid (Below w.heap.size w w6) := HB1.out.trans hbel6; clear hown6 hbel6))
      go_roundw
      case rel => exact ⟨t.extract m t.size, acc ++ [(k, i, n)], rfl, by rw [HZ.out]; simp; omega, HO6.out, HB6.out, by rw [HE.out, List.append_assoc, List.singleton_append, ← HD.out]; exact HV.out⟩
      case measure => show (t.extract m t.size).size < t.size; rw [HZ.out]; show t.size - m < t.size; omega
    · have e : t.data.toList = [] := by
        apply List.eq_nil_of_length_eq_zero
        rw [len_list]; omega
      have HE : Hid (acc = dL s.data.toList) := by
        show _ = _
        have := HV.out
        rw [e] at this
        simpa [dL] using this
      have hz : t.size = 0 := by omega
      clear HV e
      go_wp2
      go_ret
      exact ⟨_, rfl, by rw [← HE.out]; exact HO.out, HB.out⟩
end Go.Proofs.YteekompojgbkhaaGreat
