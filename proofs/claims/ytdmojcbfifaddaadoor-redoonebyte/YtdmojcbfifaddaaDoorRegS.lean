import Derived.Test.YtdmojcbfifaddaaDoorRegG
namespace Go.Proofs.YtdmojcbfifaddaaDoor
open Go
/-- A region that goes well with more held goes well with less held: what is held may be made more in the midst of it. -/
theorem wpAnyH_more {P : Program} {md : Region.Mode} {ops : Array Oper} {Q : Exit → Act → World → Prop} {S S' : World → Prop} (hS : ∀ w, S' w → S w) : ∀ (fuel : Nat) (listed : Array Bool) (a : Act) (w : World), wpAnyH P md ops Q S' fuel listed a w → wpAnyH P md ops Q S fuel listed a w
  | 0, listed, a, w, h => h
  | fuel + 1, listed, a, w, h => by
    exact ⟨h.1, fun i hi => wpOp_mono (fun a' w' h' => ⟨hS _ h'.1, wpAnyH_more hS fuel _ a' w' h'.2⟩) (h.2 i hi)⟩
open Lean Elab Tactic Meta
set_option hygiene false
/-- One of these numbers comes up: a goal for each. -/
elab "rg_any" ns:num+ : tactic => withMainContext do
  let os ← ns.mapM fun i => opOf i.getNat
  let mut t ← `(AllReadyH.nil)
  for o in os.reverse do t ← `(AllReadyH.cons (o := $o) rfl (fun K hK => ?_) $t)
  let nt : Array (TSyntax `term) := ns.map fun n => ⟨n.raw⟩
  evalTactic (← `(tactic| (refine wpAnyH_ready (rs := [$nt,*]) (by kernel_rfl) (by simp) ?_; refine $t <;> go_simp)))
/-- From here on more is held: S', that has S in it (proof), and holds here (proof). -/
macro "rg_more" s:term:max h:term:max k:term:max : tactic => `(tactic| (refine wpAnyH_more (S' := $s) $h _ _ _ _ ?_; replace hHeld := $k))
end Go.Proofs.YtdmojcbfifaddaaDoor
