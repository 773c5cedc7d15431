import Derived.Test.YtjkipbjphdfemaaDoorSums4
import Derived.Laws.OwnMore
namespace Go.Proofs.YtjkipbjphdfemaaDoor
open Go.ChangeShapes Go.WideShapes Go.ChangeAt Go.RowKit Go.MuLone
set_option linter.unusedVariables false

theorem combine_out (a b : Nat) (n : Int) (w : World) (h : n < 0 ∨ 1048576 < n) :
    Calls Tryd.prog 8 #[.int .u32 (a : Int), .int .u32 (b : Int), .int .i64 n] w fun e w' => e = .returned (.tuple #[.int .u32 0, .int .i64 10]) ∧ w' = w := by
  go_enter Tryd.func8, Tryd.ntmps8
  rcases h with h | h
  · go_wp2
    go_ret2
    exact ⟨rfl, rfl⟩
  · have h2 : ¬ n < 0 := by omega
    go_wp2
    go_ret2
    exact ⟨rfl, rfl⟩
theorem ref_combine_out (a b : Nat) (n : Int) (w : World) (h : n < 0 ∨ 1048576 < n) :
    Calls Tryd.prog 12 #[.int .u32 (a : Int), .int .u32 (b : Int), .int .i64 n] w fun e w' => e = .returned (.tuple #[.int .u32 0, .int .i64 10]) ∧ w' = w := by
  go_enter Tryd.func12, Tryd.ntmps12
  rcases h with h | h
  · go_wp2
    go_ret2
    exact ⟨rfl, rfl⟩
  · have h2 : ¬ n < 0 := by omega
    go_wp2
    go_ret2
    exact ⟨rfl, rfl⟩
theorem infoS : (Tryd.prog.info? 9).map (fun i => (i.zero, i.size, i.bytes)) = some (some (.string ⟨#[]⟩), 1, 16) := by kernel_rfl
/-- The slice value v holds just the texts ps, in a row of the call's own. -/
def ownS (w : World) (B : Nat) (v : Value) (ps : List ByteArray) : Prop := w.ownsRow B 9 1 v ps.length (ps.map Value.string)
theorem ownS_nil (w : World) (B : Nat) : ownS w B (.slice none 0 0) [] := World.ownsRow_nil _ _ _ _
theorem app_str {wr : World} {ops : Array Oper} {rest : List Oper} {o : Oper} {a : Act} {Q : Exit → Act → World → Prop} (hgd : o.guard = none) (s x : Operand)
    (ho : o.op = .call { callee := .builtin .append, args := #[s, x], argTypes := #[32, 32] })
    (B : Nat) (v : Value) (ps : List ByteArray) (c : ByteArray) (hown : ownS wr B v ps) (hs : a.eval s = v) (hx : a.eval x = .slice (some ⟨wr.heap.size, 0, none⟩) 1 1)
    (hlen : (ps.length + 1) * 16 ≤ 140737488355328) (hB : B ≤ wr.heap.size)
    (h : ∀ v' w', ownS w' B v' (ps ++ [c]) → Below B wr w' → wpList Tryd.prog ops Q rest (a.put o.dst v') w') :
    wpList Tryd.prog ops Q (o :: rest) a (wr.alloc (.cells #[.string c] 9)) := by
  obtain ⟨i0, hi, hz0, hz1, hz2⟩ := info_parts infoS
  refine wpList_append_own _ hgd s x 32 ho B 9 i0 (.string ⟨#[]⟩) 1 16 Tryd.underlying32 hi hz0 hz1 hz2 rfl (by decide) v ps.length _ hs (World.ownsRow.alloc hown _)
    ⟨wr.heap.size, 0, none⟩ 1 1 [.string c] hx rfl ?_ ?_ (by unfold maxLen; omega) (by omega) (by simp; omega) ?_
  · intro j u hj
    match j, hj with
    | 0, hj => simp at hj; subst hj; simp [Addr.add]
  · intro u hu; simp at hu; subst hu; rfl
  · intro v' w' hown' hgrow _
    refine h v' w' ?_ ?_
    · unfold ownS
      rw [List.length_append, List.map_append]
      exact hown'
    · exact ((Below.refl _ _).alloc hB _).grown hgrow (by simp; omega) (fun k hk => (World.ownsRow.lt hown k hk).1)
theorem ownS.sees {w : World} {B g n cap : Nat} {ps us : List ByteArray} (h : ownS w B (.slice (some ⟨g, 0, none⟩) n cap) ps) (hn : ps.length = n) (hu : us = ps.take us.length) (hl : us.length ≤ n) (h47 : us.length ≤ 140737488355328) : SeesS w w.heap.size (.slice (some ⟨g, 0, none⟩) us.length cap) us ∧ n ≤ cap := by
  have hh := h
  rcases h.2 with ⟨h', _⟩ | ⟨g', cap', cur, h', hb, hg, hnc, hm, hs, ht⟩
  · simp at h'
  · simp only [Value.slice.injEq, Option.some.injEq, Addr.mk.injEq, and_true] at h'
    obtain ⟨rfl, hn', rfl⟩ := h'
    refine ⟨⟨_, _, rfl, by omega, h47, fun i hi => ?_⟩, by omega⟩
    have hlt : g < w.heap.size := by
      rcases Nat.lt_or_ge g w.heap.size with h | h
      · exact h
      · rw [Array.getElem?_eq_none h] at hg; cases hg
    refine ⟨g, 0, rfl, hlt, ?_⟩
    unfold ownS at hh
    rw [hn] at hh
    have e : us[i] = ps[i]'(by omega) := by
      have := congrArg (fun l : List ByteArray => l[i]?) hu
      simp only [List.getElem?_take, if_pos hi, List.getElem?_eq_getElem hi, List.getElem?_eq_getElem (show i < ps.length by omega)] at this
      exact Option.some.inj this
    rw [e, Nat.zero_add, World.ownsRow.cellAt hh _ (by omega), List.getElem?_map, List.getElem?_eq_getElem (by omega)]
    rfl
end Go.Proofs.YtjkipbjphdfemaaDoor
