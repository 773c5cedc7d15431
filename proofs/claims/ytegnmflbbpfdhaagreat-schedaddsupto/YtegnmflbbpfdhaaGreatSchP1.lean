import Derived.Test.YtegnmflbbpfdhaaGreatRows
import Derived.WalkKit
import Derived.ProofKit
import Derived.OpenShut
import Derived.ShutString
import Derived.WalkLawsBesides
import Derived.Outline
import Derived.WalkSpells
import Derived.BigRegion
import Derived.Deep.QuietTactic
import Derived.BigQuiet
import Derived.Deep.RegionWith
import Derived.Deep.RegionHeld3
import Derived.Laws.BitsAllLaws
import Derived.Lib.Bytealg
import Derived.Lib.Strings
import Derived.Laws.Externs
import Derived.Laws.OwnMore
import Derived.Laws.StructEq
import Derived.Laws.Small
import Derived.Laws.Rows
import Derived.OwnWalk
import Derived.Below
namespace Go.Proofs.YtegnmflbbpfdhaaGreat
open Go.ChangeShapes Go.WideShapes Go.ChangeAt Go.RowKit
set_option linter.unusedVariables false

/-- The slice value v holds the picks vs, in blocks below B. -/
def SeesP (w : World) (B : Nat) (v : Value) (vs : List (Int × Int × Int)) : Prop :=
  ∃ ao cap, v = .slice ao vs.length cap ∧ vs.length ≤ cap ∧ vs.length ≤ 140737488355328 ∧ (∀ i (hi : i < vs.length), ∃ b off, ao = some ⟨b, off, none⟩ ∧ b < B ∧ w.cell? ⟨b, off + i * 3, none⟩ = some (.int .i64 vs[i].1) ∧ w.cell? ⟨b, off + i * 3 + 1, none⟩ = some (.int .i64 vs[i].2.1) ∧ w.cell? ⟨b, off + i * 3 + 2, none⟩ = some (.int .i64 vs[i].2.2))
theorem SeesP.later {w w' : World} {B : Nat} {v : Value} {vs : List (Int × Int × Int)} (h : SeesP w B v vs) (hb : Below B w w') : SeesP w' B v vs := by
  obtain ⟨ao, cap, rfl, h1, h2, h3⟩ := h
  refine ⟨ao, cap, rfl, h1, h2, fun i hi => ?_⟩
  obtain ⟨b, off, e, hbB, c0, c1, c2⟩ := h3 i hi
  exact ⟨b, off, e, hbB, by rw [hb.cell hbB]; exact c0, by rw [hb.cell hbB]; exact c1, by rw [hb.cell hbB]; exact c2⟩
theorem SeesP.mono {w : World} {B B' : Nat} {v : Value} {vs : List (Int × Int × Int)} (h : SeesP w B v vs) (hb : B ≤ B') : SeesP w B' v vs := by
  obtain ⟨ao, cap, rfl, h1, h2, h3⟩ := h
  refine ⟨ao, cap, rfl, h1, h2, fun i hi => ?_⟩
  obtain ⟨b, off, e, hbB, c0, c1, c2⟩ := h3 i hi
  exact ⟨b, off, e, by omega, c0, c1, c2⟩
theorem below_drewN {B : Nat} {w : World} (n : Nat) : Below B w (w.drewN n) := by
  induction n generalizing w with
  | zero => exact Below.refl _ _
  | succ n ih => exact (ih (w := w)).drew
theorem infoP : (Tryz.prog.info? 113).map (fun i => (i.zero, i.size, i.bytes)) = some (some (.agg #[.int .i64 0, .int .i64 0, .int .i64 0]), 3, 24) := by kernel_rfl
def cellP (a : Int × Int × Int) : List Value := [.int .i64 a.1, .int .i64 a.2.1, .int .i64 a.2.2]
def cellsP (vs : List (Int × Int × Int)) : List Value := vs.flatMap cellP
theorem cellsP_len : ∀ vs, (cellsP vs).length = vs.length * 3
  | [] => rfl
  | v :: vs => by
    have e : cellsP (v :: vs) = .int .i64 v.1 :: .int .i64 v.2.1 :: .int .i64 v.2.2 :: cellsP vs := rfl
    rw [e]
    simp only [List.length_cons, cellsP_len vs]; omega
theorem cellsP_get : ∀ (vs : List (Int × Int × Int)) (i : Nat) (hi : i < vs.length), (cellsP vs)[i * 3]? = some (.int .i64 vs[i].1) ∧ (cellsP vs)[i * 3 + 1]? = some (.int .i64 vs[i].2.1) ∧ (cellsP vs)[i * 3 + 2]? = some (.int .i64 vs[i].2.2)
  | v :: vs, 0, _ => by simp [cellsP, cellP]
  | v :: vs, i + 1, hi => by
    have := cellsP_get vs i (by simp at hi; omega)
    have e : cellsP (v :: vs) = .int .i64 v.1 :: .int .i64 v.2.1 :: .int .i64 v.2.2 :: cellsP vs := rfl
    rw [e, show (i + 1) * 3 = i * 3 + 1 + 1 + 1 from by omega]
    simpa using this
/-- The slice value v holds just the values vs, in a row of the call's own. -/
def ownP (w : World) (B : Nat) (v : Value) (vs : List (Int × Int × Int)) : Prop := w.ownsRow B 113 3 v vs.length (cellsP vs)
theorem ownP_nil (w : World) (B : Nat) : ownP w B (.slice none 0 0) [] := World.ownsRow_nil _ _ _ _
theorem ownP.sees {w : World} {B g n cap : Nat} {vs us : List (Int × Int × Int)} (h : ownP w B (.slice (some ⟨g, 0, none⟩) n cap) vs) (hn : vs.length = n) (hu : us = vs.take us.length) (hl : us.length ≤ n) (h47 : us.length ≤ 140737488355328) : SeesP w w.heap.size (.slice (some ⟨g, 0, none⟩) us.length cap) us := by
  have hh := h
  rcases h.2 with ⟨h', _⟩ | ⟨g', cap', cur, h', hb, hg, hnc, hm, hs, ht⟩
  · simp at h'
  · simp only [Value.slice.injEq, Option.some.injEq, Addr.mk.injEq, and_true] at h'
    obtain ⟨rfl, hn', rfl⟩ := h'
    refine ⟨_, _, rfl, by omega, h47, fun i hi => ?_⟩
    have hlt : g < w.heap.size := by
      rcases Nat.lt_or_ge g w.heap.size with h | h
      · exact h
      · rw [Array.getElem?_eq_none h] at hg; cases hg
    refine ⟨g, 0, rfl, hlt, ?_⟩
    unfold ownP at hh
    rw [hn] at hh
    have c := cellsP_get vs i (by omega)
    have e : us[i] = vs[i]'(by omega) := by
      have := congrArg (fun l : List (Int × Int × Int) => l[i]?) hu
      simp only [List.getElem?_take, if_pos hi, List.getElem?_eq_getElem hi, List.getElem?_eq_getElem (show i < vs.length by omega)] at this
      exact Option.some.inj this
    rw [e]
    refine ⟨?_, ?_, ?_⟩
    · rw [show 0 + i * 3 = i * 3 from by omega, World.ownsRow.cellAt hh _ (by omega)]; exact c.1
    · rw [show 0 + i * 3 + 1 = i * 3 + 1 from by omega, World.ownsRow.cellAt hh _ (by omega)]; exact c.2.1
    · rw [show 0 + i * 3 + 2 = i * 3 + 2 from by omega, World.ownsRow.cellAt hh _ (by omega)]; exact c.2.2
theorem app_pick {wr : World} {ops : Array Oper} {rest : List Oper} {o : Oper} {a : Act} {Q : Exit → Act → World → Prop} (hgd : o.guard = none) (s x : Operand)
    (ho : o.op = .call { callee := .builtin .append, args := #[s, x], argTypes := #[110, 110] })
    (B : Nat) (v : Value) (vs : List (Int × Int × Int)) (c : Int × Int × Int) (hown : ownP wr B v vs) (hs : a.eval s = v) (g : Nat) (hg : g = wr.heap.size) (hx : a.eval x = .slice (some ⟨g, 0, none⟩) 1 1)
    (hlen : (vs.length + 1) * 24 ≤ 140737488355328) (hB : B ≤ wr.heap.size)
    (h : ∀ v' w', ownP w' B v' (vs ++ [c]) → Below B wr w' → wpList Tryz.prog ops Q rest (a.put o.dst v') w') :
    wpList Tryz.prog ops Q (o :: rest) a (wr.alloc (.cells #[.int .i64 c.1, .int .i64 c.2.1, .int .i64 c.2.2] 113)) := by
  subst hg
  obtain ⟨i0, hi, hz0, hz1, hz2⟩ := info_parts infoP
  refine wpList_append_own _ hgd s x 110 ho B 113 i0 (.agg #[.int .i64 0, .int .i64 0, .int .i64 0]) 3 24 Tryz.underlying110 hi hz0 hz1 hz2 rfl (by decide) v vs.length _ hs (World.ownsRow.alloc hown _)
    ⟨wr.heap.size, 0, none⟩ 1 1 (cellP c) hx rfl ?_ ?_ (by unfold maxLen; omega) (by omega) (by simp; omega) ?_
  · intro j u hj
    match j, hj with
    | 0, hj => simp [cellP] at hj; subst hj; simp [Addr.add]
    | 1, hj => simp [cellP] at hj; subst hj; simp [Addr.add]
    | 2, hj => simp [cellP] at hj; subst hj; simp [Addr.add]
  · intro u hu; simp [cellP] at hu; rcases hu with rfl | rfl | rfl <;> rfl
  · intro v' w' hown' hgrow _
    refine h v' w' ?_ ?_
    · have : (vs ++ [c]).length = vs.length + 1 := by simp
      unfold ownP; rw [this, show cellsP (vs ++ [c]) = cellsP vs ++ cellP c from by simp [cellsP]]; exact hown'
    · exact ((Below.refl _ _).alloc hB _).grown hgrow (by simp; omega) (fun k hk => (World.ownsRow.lt hown k hk).1)

theorem eqP (a b : Int × Int × Int) (w : World) : (Op.equalIn 10000 113 (.agg #[.int .i64 a.1, .int .i64 a.2.1, .int .i64 a.2.2]) (.agg #[.int .i64 b.1, .int .i64 b.2.1, .int .i64 b.2.2])).run Tryz.prog w = .ok (decide (a = b)) w := by
  obtain ⟨a1, a2, a3⟩ := a
  obtain ⟨b1, b2, b3⟩ := b
  have u3 := Tryz.underlying3
  have hS : Tryz.prog.underlying 113 = some (.struct (Tryz.prog.fieldsOf 113)) := by kernel_rfl
  have hp : Tryz.prog.stoodInHeld 113 = false := by kernel_rfl
  rw [show (10000 : Nat) = 9999 + 1 from rfl, run_equalIn_agg w 9999 113 _ _ hS hp]
  simp only [Program.fieldsOf, Tryz.underlying113]
  go_simp
  by_cases h1 : a1 = b1 <;> by_cases h2 : a2 = b2 <;> by_cases h3 : a3 = b3 <;> simp [h1, h2, h3]
theorem guardP : Tryz.prog.eqGuardType Tryz.prog.depth 113 = false := by kernel_rfl
set_option maxRecDepth 100000 in
theorem ownP.len {w : World} {B : Nat} {v : Value} {xs : List (Int × Int × Int)} (h : ownP w B v xs) : (Builtin.len_ #[110] 3 #[v]).run Tryz.prog w = .ok (.int .i64 xs.length) w := by
  rcases h with ⟨h1, ⟨rfl, h2⟩ | ⟨g, cap, cur, rfl, hb, hg, hr⟩⟩
  · rw [h2]; rfl
  · rfl
theorem ownP.same {w w' : World} {B : Nat} {v : Value} {xs : List (Int × Int × Int)} (h : ownP w B v xs) (hk : ∀ k, k < w.heap.size → B ≤ k → w'.heap[k]? = w.heap[k]?) : ownP w' B v xs := by
  rcases h with ⟨h1, h2 | ⟨g, cap, cur, rfl, hb, hg, hr⟩⟩
  · exact ⟨h1, .inl h2⟩
  · exact ⟨h1, .inr ⟨g, cap, cur, rfl, hb, by rw [hk g (Array.getElem?_eq_some_iff.1 hg).1 hb]; exact hg, hr⟩⟩
theorem ownP.down {w : World} {B B' : Nat} {v : Value} {vs : List (Int × Int × Int)} (h : ownP w B v vs) (hB : B' ≤ B) : ownP w B' v vs := by
  rcases h with ⟨h1, h2 | ⟨g, cap, cur, rfl, hb, hr⟩⟩
  · exact ⟨h1, .inl h2⟩
  · exact ⟨h1, .inr ⟨g, cap, cur, rfl, Nat.le_trans hB hb, hr⟩⟩
theorem ownP.seesAll {w : World} {B : Nat} {v : Value} {vs : List (Int × Int × Int)} (h : ownP w B v vs) (h47 : vs.length ≤ 140737488355328) : SeesP w w.heap.size v vs := by
  have h' := h
  rcases h.2 with ⟨e, e2⟩ | ⟨g, cap, cur, e, hb, hg, hnc, hm, hs, ht⟩
  · subst e
    have : vs = [] := List.length_eq_zero_iff.1 e2
    subst this
    exact ⟨none, 0, rfl, by simp, by simp, fun k hk => absurd hk (by simp)⟩
  · subst e
    exact ownP.sees h' rfl (by simp) (Nat.le_refl _) h47
theorem sameL_step (vs us : List (Int × Int × Int)) (k : Nat) (h1 : k < vs.length) (h2 : k < us.length) : decide (vs.drop k = us.drop k) = (decide (vs[k] = us[k]) && decide (vs.drop (k + 1) = us.drop (k + 1))) := by
  rw [Bool.eq_iff_iff]
  simp only [Bool.and_eq_true, decide_eq_true_eq]
  rw [List.drop_eq_getElem_cons h1, List.drop_eq_getElem_cons h2, List.cons.injEq]
end Go.Proofs.YtegnmflbbpfdhaaGreat
