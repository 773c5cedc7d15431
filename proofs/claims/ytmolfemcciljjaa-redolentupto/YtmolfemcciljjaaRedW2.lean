import Derived.Test.YtmolfemcciljjaaRows
import Derived.Test.YtmolfemcciljjaaRedW1
import Derived.WalkKit
import Derived.ProofKit
import Derived.OpenShut
import Derived.ShutString
import Derived.WalkLawsBesides
import Derived.Outline
import Derived.WalkSpells
import Derived.BigRegion
import Derived.Deep.QuietTactic
import Derived.BigQuiet
import Derived.Deep.RegionWith
import Derived.Deep.RegionHeld3
import Derived.Laws.BitsAllLaws
import Derived.Lib.Bytealg
import Derived.Lib.Strings
import Derived.Laws.Externs
import Derived.Laws.OwnMore
import Derived.Laws.StructEq
import Derived.Laws.Small
import Derived.Laws.Rows
import Derived.OwnWalk
import Derived.Below
namespace Go.Proofs.Ytmolfemcciljjaa
open Go.ChangeShapes Go.WideShapes Go.ChangeAt Go.RowKit
set_option linter.unusedVariables false
/-- The slice value v holds the writes vs, in blocks below B. -/
def SeesW (w : World) (B : Nat) (v : Value) (vs : List W3) : Prop :=
  ∃ ao cap, v = .slice ao vs.length cap ∧ vs.length ≤ cap ∧ vs.length ≤ 140737488355328 ∧ (∀ i (hi : i < vs.length), ∃ b off, ao = some ⟨b, off, none⟩ ∧ b < B ∧ w.cell? ⟨b, off + i * 3, none⟩ = some (.int .i64 vs[i].1) ∧ w.cell? ⟨b, off + i * 3 + 1, none⟩ = some (.string vs[i].2.1) ∧ w.cell? ⟨b, off + i * 3 + 2, none⟩ = some (.string vs[i].2.2))
theorem SeesW.later {w w' : World} {B : Nat} {v : Value} {vs : List W3} (h : SeesW w B v vs) (hb : Below B w w') : SeesW w' B v vs := by
  obtain ⟨ao, cap, rfl, h1, h2, h3⟩ := h
  refine ⟨ao, cap, rfl, h1, h2, fun i hi => ?_⟩
  obtain ⟨b, off, e, hbB, c0, c1, c2⟩ := h3 i hi
  exact ⟨b, off, e, hbB, by rw [hb.cell hbB]; exact c0, by rw [hb.cell hbB]; exact c1, by rw [hb.cell hbB]; exact c2⟩
theorem SeesW.mono {w : World} {B B' : Nat} {v : Value} {vs : List W3} (h : SeesW w B v vs) (hb : B ≤ B') : SeesW w B' v vs := by
  obtain ⟨ao, cap, rfl, h1, h2, h3⟩ := h
  refine ⟨ao, cap, rfl, h1, h2, fun i hi => ?_⟩
  obtain ⟨b, off, e, hbB, c0, c1, c2⟩ := h3 i hi
  exact ⟨b, off, e, by omega, c0, c1, c2⟩
theorem infoW : (Try.prog.info? 47).map (fun i => (i.zero, i.size, i.bytes)) = some (some (.agg #[.int .i64 0, .string ⟨#[]⟩, .string ⟨#[]⟩]), 3, 40) := by kernel_rfl
def cellW (a : W3) : List Value := [.int .i64 a.1, .string a.2.1, .string a.2.2]
def cellsW (vs : List W3) : List Value := vs.flatMap cellW
theorem cellsW_len : ∀ vs, (cellsW vs).length = vs.length * 3
  | [] => rfl
  | v :: vs => by
    have e : cellsW (v :: vs) = .int .i64 v.1 :: .string v.2.1 :: .string v.2.2 :: cellsW vs := rfl
    rw [e]
    simp only [List.length_cons, cellsW_len vs]; omega
theorem cellsW_get : ∀ (vs : List W3) (i : Nat) (hi : i < vs.length), (cellsW vs)[i * 3]? = some (.int .i64 vs[i].1) ∧ (cellsW vs)[i * 3 + 1]? = some (.string vs[i].2.1) ∧ (cellsW vs)[i * 3 + 2]? = some (.string vs[i].2.2)
  | v :: vs, 0, _ => by simp [cellsW, cellW]
  | v :: vs, i + 1, hi => by
    have := cellsW_get vs i (by simp at hi; omega)
    have e : cellsW (v :: vs) = .int .i64 v.1 :: .string v.2.1 :: .string v.2.2 :: cellsW vs := rfl
    rw [e, show (i + 1) * 3 = i * 3 + 1 + 1 + 1 from by omega]
    simpa using this
/-- The slice value v holds just the writes vs, in a row of the call's own. -/
def ownW (w : World) (B : Nat) (v : Value) (vs : List W3) : Prop := w.ownsRow B 47 3 v vs.length (cellsW vs)
theorem ownW_nil (w : World) (B : Nat) : ownW w B (.slice none 0 0) [] := World.ownsRow_nil _ _ _ _
theorem ownW.sees {w : World} {B g n cap : Nat} {vs us : List W3} (h : ownW w B (.slice (some ⟨g, 0, none⟩) n cap) vs) (hn : vs.length = n) (hu : us = vs.take us.length) (hl : us.length ≤ n) (h47 : us.length ≤ 140737488355328) : SeesW w w.heap.size (.slice (some ⟨g, 0, none⟩) us.length cap) us := by
  have hh := h
  rcases h.2 with ⟨h', _⟩ | ⟨g', cap', cur, h', hb, hg, hnc, hm, hs, ht⟩
  · simp at h'
  · simp only [Value.slice.injEq, Option.some.injEq, Addr.mk.injEq, and_true] at h'
    obtain ⟨rfl, hn', rfl⟩ := h'
    refine ⟨_, _, rfl, by omega, h47, fun i hi => ?_⟩
    have hlt : g < w.heap.size := by
      rcases Nat.lt_or_ge g w.heap.size with h | h
      · exact h
      · rw [Array.getElem?_eq_none h] at hg; cases hg
    refine ⟨g, 0, rfl, hlt, ?_⟩
    unfold ownW at hh
    rw [hn] at hh
    have c := cellsW_get vs i (by omega)
    have e : us[i] = vs[i]'(by omega) := by
      have := congrArg (fun l : List W3 => l[i]?) hu
      simp only [List.getElem?_take, if_pos hi, List.getElem?_eq_getElem hi, List.getElem?_eq_getElem (show i < vs.length by omega)] at this
      exact Option.some.inj this
    rw [e]
    refine ⟨?_, ?_, ?_⟩
    · rw [show 0 + i * 3 = i * 3 from by omega, World.ownsRow.cellAt hh _ (by omega)]; exact c.1
    · rw [show 0 + i * 3 + 1 = i * 3 + 1 from by omega, World.ownsRow.cellAt hh _ (by omega)]; exact c.2.1
    · rw [show 0 + i * 3 + 2 = i * 3 + 2 from by omega, World.ownsRow.cellAt hh _ (by omega)]; exact c.2.2
theorem ownW.seesAll {w : World} {B : Nat} {v : Value} {vs : List W3} (h : ownW w B v vs) (h47 : vs.length ≤ 140737488355328) : SeesW w w.heap.size v vs := by
  have h' := h
  rcases h.2 with ⟨e, e2⟩ | ⟨g, cap, cur, e, hb, hg, hnc, hm, hs, ht⟩
  · subst e
    have : vs = [] := List.length_eq_zero_iff.1 e2
    subst this
    exact ⟨none, 0, rfl, by simp, by simp, fun k hk => absurd hk (by simp)⟩
  · subst e
    exact ownW.sees h' rfl (by simp) (Nat.le_refl _) h47
theorem ownW.alloc {w : World} {B : Nat} {v : Value} {xs : List W3} (h : ownW w B v xs) (o : Obj) : ownW (w.alloc o) B v xs := World.ownsRow.alloc h o
theorem ownW.drew {w : World} {B : Nat} {v : Value} {xs : List W3} (h : ownW w B v xs) : ownW w.drew B v xs := World.ownsRow.drew h
theorem ownW.same {w w' : World} {B : Nat} {v : Value} {xs : List W3} (h : ownW w B v xs) (hk : ∀ k, k < w.heap.size → B ≤ k → w'.heap[k]? = w.heap[k]?) : ownW w' B v xs := by
  rcases h with ⟨h1, h2 | ⟨g, cap, cur, rfl, hb, hg, hr⟩⟩
  · exact ⟨h1, .inl h2⟩
  · exact ⟨h1, .inr ⟨g, cap, cur, rfl, hb, by rw [hk g (Array.getElem?_eq_some_iff.1 hg).1 hb]; exact hg, hr⟩⟩
theorem app_write {wr : World} {ops : Array Oper} {rest : List Oper} {o : Oper} {a : Act} {Q : Exit → Act → World → Prop} (hgd : o.guard = none) (s x : Operand)
    (ho : o.op = .call { callee := .builtin .append, args := #[s, x], argTypes := #[23, 23] })
    (B : Nat) (v : Value) (vs : List W3) (c : W3) (hown : ownW wr B v vs) (hs : a.eval s = v) (g : Nat) (hg : g = wr.heap.size) (hx : a.eval x = .slice (some ⟨g, 0, none⟩) 1 1)
    (hlen : (vs.length + 1) * 40 ≤ 140737488355328) (hB : B ≤ wr.heap.size)
    (h : ∀ v' w', ownW w' B v' (vs ++ [c]) → Below B wr w' → wpList Try.prog ops Q rest (a.put o.dst v') w') :
    wpList Try.prog ops Q (o :: rest) a (wr.alloc (.cells #[.int .i64 c.1, .string c.2.1, .string c.2.2] 47)) := by
  subst hg
  obtain ⟨i0, hi, hz0, hz1, hz2⟩ := info_parts infoW
  refine wpList_append_own _ hgd s x 23 ho B 47 i0 (.agg #[.int .i64 0, .string ⟨#[]⟩, .string ⟨#[]⟩]) 3 40 Try.underlying23 hi hz0 hz1 hz2 rfl (by decide) v vs.length _ hs (World.ownsRow.alloc hown _)
    ⟨wr.heap.size, 0, none⟩ 1 1 (cellW c) hx rfl ?_ ?_ (by unfold maxLen; omega) (by omega) (by simp; omega) ?_
  · intro j u hj
    match j, hj with
    | 0, hj => simp [cellW] at hj; subst hj; simp [Addr.add]
    | 1, hj => simp [cellW] at hj; subst hj; simp [Addr.add]
    | 2, hj => simp [cellW] at hj; subst hj; simp [Addr.add]
  · intro u hu; simp [cellW] at hu; rcases hu with rfl | rfl | rfl <;> rfl
  · intro v' w' hown' hgrow _
    refine h v' w' ?_ ?_
    · have : (vs ++ [c]).length = vs.length + 1 := by simp
      unfold ownW; rw [this, show cellsW (vs ++ [c]) = cellsW vs ++ cellW c from by simp [cellsW]]; exact hown'
    · exact ((Below.refl _ _).alloc hB _).grown hgrow (by simp; omega) (fun k hk => (World.ownsRow.lt hown k hk).1)
theorem guardW : Try.prog.eqGuardType Try.prog.depth 47 = false := by kernel_rfl
end Go.Proofs.Ytmolfemcciljjaa
