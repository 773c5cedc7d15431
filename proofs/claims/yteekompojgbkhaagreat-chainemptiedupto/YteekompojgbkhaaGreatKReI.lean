import Derived.Test.YteekompojgbkhaaGreatKReE
namespace Go.Proofs.YteekompojgbkhaaGreat
open Go.ChangeShapes Go.WideShapes Go.ChangeAt Go.RowKit Go.MuLone Go.RwLone
set_option linter.unusedVariables false
set_option maxRecDepth 100000
set_option maxHeartbeats 6400000
end Go.Proofs.YteekompojgbkhaaGreat

namespace Go.Proofs.YteekompojgbkhaaGreat
open Go.ChangeShapes Go.WideShapes Go.ChangeAt Go.RowKit Go.MuLone Go.RwLone
set_option linter.unusedVariables false
set_option maxRecDepth 100000
set_option maxHeartbeats 6400000
/-- A new queue. -/
theorem RAr.setQ {w : World} {R : RL} {cap : Nat} {qv v : Value} {Q Q' : List Nat} {S : AS} (h : RAr w R cap qv Q S) (o : OwI w 0 v (Q'.map qZ)) (hb : ∀ g, v.ownBlock = some g → g ≠ R.b ∧ g ≠ R.s ∧ ¬ R.ws S g) : RAr (w.setCell ⟨R.b, 2, none⟩ v) R cap v Q' S := by
  have ob : ∀ i, i ≠ 2 → (w.setCell ⟨R.b, 2, none⟩ v).cell? ⟨R.b, i, none⟩ = w.cell? ⟨R.b, i, none⟩ := fun i hi => World.cell?_setCell_other _ _ _ _ (fun e => hi (congrArg Addr.off e).symm)
  have os : ∀ g i, g ≠ R.b → (w.setCell ⟨R.b, 2, none⟩ v).cell? ⟨g, i, none⟩ = w.cell? ⟨g, i, none⟩ := fun g i hg => World.cell?_setCell_other _ _ _ _ (fun e => hg (congrArg Addr.block e).symm)
  have k : Keeps (fun g => g = R.b) w (w.setCell ⟨R.b, 2, none⟩ v) := setB
  exact ⟨(ob 0 (by decide)).trans h.c0, (ob 1 (by decide)).trans h.c1, World.cell?_setCell_same _ _ _ h.c2, (ob 3 (by decide)).trans h.c3, (ob 4 (by decide)).trans h.c4, fun i hi => (os _ _ (Ne.symm h.bs)).trans (h.us i hi), fun i hi => (os _ _ (Ne.symm h.bs)).trans (h.nm i hi), fun i hi => (os _ _ (Ne.symm h.bs)).trans (h.dt i hi), fun i hi => (os _ _ (Ne.symm h.bs)).trans (h.tl i hi), fun i hi hu => (os _ _ (Ne.symm h.bs)).trans (h.wy i hi hu), fun i hi hu => (os _ _ (Ne.symm h.bs)).trans (h.wn i hi hu), fun i hi => (os _ _ (Ne.symm h.bs)).trans (h.tn i hi), fun i hi hu j hj => (os _ _ (h.bw i hi hu).1).trans (h.wo i hi hu j hj), owK o k (fun g hg => (hb g hg).1), fun j => by simpa using h.fb j, fun j => by simpa using h.fs j, fun i hi hu j => by simpa using h.fw i hi hu j, by simpa using h.lb, by simpa using h.ls, fun i hi hu => by simpa using h.lw i hi hu, h.bs, h.bw, h.ww, hb, h.hn, h.hw⟩
/-- Six cells stored. -/
def set6 (w : World) (s o : Nat) (c0 c1 c2 c3 c4 c5 : Value) : World := (((((w.setCell ⟨s, o, none⟩ c0).setCell ⟨s, o + 1, none⟩ c1).setCell ⟨s, o + 2, none⟩ c2).setCell ⟨s, o + 3, none⟩ c3).setCell ⟨s, o + 4, none⟩ c4).setCell ⟨s, o + 5, none⟩ c5
end Go.Proofs.YteekompojgbkhaaGreat
