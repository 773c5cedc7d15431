import Derived.Deep.RegionHeld3
import Derived.WalkKit
namespace Go.Proofs.Ytdmojcbfifaddaa
open Lean Elab Tactic Meta
/-! A region that draws its order and holds guards: walked by hand, one operation after another, in the order of the text, with a condition S that holds throughout (by the library's laws on 'wpAnyH'). -/
/-- The i-th of a list that is written out. -/
partial def nthOf (l : Lean.Expr) (i : Nat) : Option Lean.Expr :=
  if l.isAppOfArity ``List.cons 3 then (if i == 0 then some l.appFn!.appArg! else nthOf l.appArg! (i - 1)) else none
def opOf (i : Nat) : TacticM (TSyntax `term) := withMainContext do
  let g := (← instantiateMVars (← getMainTarget)).consumeMData
  let some ops := g.getAppArgs[2]? | throwError "no region"
  let some o := nthOf ops.consumeMData.appArg! i | throwError "the region is not written out"
  Term.exprToSyntax o
def tidy : TacticM Unit := do
  evalTactic (← `(tactic| try simp only [Act.put, List.setIfInBounds_toArray, List.set_cons_zero, List.set_cons_succ]))
/-- Number i is not wanted. -/
elab "rg_skip" i:num : tactic => withMainContext do
  let o ← opOf i.getNat
  evalTactic (← `(tactic| refine wpAnyH_take (i := $i) (oi := $o) (v := undef) rfl (by kernel_rfl) (by kernel_rfl) (by kernel_rfl) (fun _ _ _ h => h) (Or.inr ⟨by rfl, rfl⟩) (by assumption) ?_))
  tidy
/-- Number i yields its value wherever S holds. -/
elab "rg_take" i:num : tactic => withMainContext do
  let o ← opOf i.getNat
  evalTactic (← `(tactic| refine wpAnyH_take (i := $i) (oi := $o) (v := ?_) rfl (by kernel_rfl) (by kernel_rfl) (by kernel_rfl) (fun _ _ _ h => h) (Or.inl ⟨by rfl, ?_⟩) (by assumption) ?_))
  let [_, hy, rest] ← getGoals | throwError "three goals expected"
  setGoals [hy]
  evalTactic (← `(tactic| (intro w hSw; (try dsimp only at hSw); go_simp)))
  unless (← getGoals).isEmpty do evalTactic (← `(tactic| first | (rw [dif_pos (by omega)]; simp only [Result.andThen_ok]) | rw [if_pos (by omega)] | skip))
  unless (← getGoals).isEmpty do evalTactic (← `(tactic| with_reducible rfl))
  unless (← getGoals).isEmpty do throwError "rg_take: not closed: {← getMainTarget}"
  setGoals [rest]
  tidy
set_option hygiene false
/-- It begins. -/
macro "rg_start" s:term:max h:term:max : tactic => `(tactic| (refine wp_region_held_drew (S := $s) (by kernel_rfl) $h (fun hHeld => ?_); simp only [List.size_toArray, List.length_cons, List.length_nil, Nat.reduceAdd, Array.replicate_succ, Array.replicate_zero, List.push_toArray, List.append_toArray, List.nil_append, List.cons_append]))
/-- Number i alone may come up, and is carried out: a call. -/
elab "rg_step" i:num : tactic => withMainContext do
  let o ← opOf i.getNat
  evalTactic (← `(tactic| (refine wpAnyH_ready (rs := [$i]) (by kernel_rfl) (by simp) ?_; refine AllReadyH.cons (o := $o) rfl (fun K hK => ?_) AllReadyH.nil; go_simp)))
/-- Number i or number j may come up: two goals. -/
elab "rg_two" i:num j:num : tactic => withMainContext do
  let o ← opOf i.getNat
  let q ← opOf j.getNat
  evalTactic (← `(tactic| (refine wpAnyH_ready (rs := [$i, $j]) (by kernel_rfl) (by simp) ?_; refine AllReadyH.cons (o := $o) rfl (fun K hK => ?_) (AllReadyH.cons (o := $q) rfl (fun K hK => ?_) AllReadyH.nil) <;> go_simp)))
/-- Behind it S is shown anew. -/
macro "rg_back" h:term:max : tactic => `(tactic| (refine hK.out _ _ $h (fun hHeld => ?_); clear hK K; try simp only [Act.put, List.setIfInBounds_toArray, List.set_cons_zero, List.set_cons_succ]))
/-- All have come up. -/
macro "rg_done" : tactic => `(tactic| (refine wpAnyH_done (by kernel_rfl) ?_ _))
end Go.Proofs.Ytdmojcbfifaddaa
