import Derived.Test.YteekompojgbkhaaGreatKReN
import Derived.Test.YteekompojgbkhaaGreatKReG
import Derived.Test.YteekompojgbkhaaGreatKChJ
namespace Go.Proofs.YteekompojgbkhaaGreat
open Go.ChangeShapes Go.WideShapes Go.ChangeAt Go.RowKit Go.MuLone Go.RwLone
set_option linter.unusedVariables false
set_option maxRecDepth 100000
set_option maxHeartbeats 6400000
theorem Bo.dj2 {w : World} {l : WL} {qv : Value} {s : WS} (h : Bo w l qv s) {m : PM} (hm : m ∈ s.ms) (g : Nat) (hg : chF l.L (l.X m.ix) g) : ¬ mrF l.R qv s.S (l.Y m.ix) m.rb g := by
  obtain ⟨m1, mi, m3, m4, m5, m6, m7, m8⟩ := h.m m hm
  have hp : pF l g := hg.elim .inl (fun e => .inr ⟨_, mi, e⟩)
  rintro ((e | e) | e)
  · exact h.pd g hp (.inl e)
  · exact h.pd g hp (.inr ⟨_, mi, e⟩)
  · exact m6 (by rw [← e]; exact hp)
/-- Both have stepped. -/
theorem Bo.both {w w2 w3 : World} {l : WL} {qv : Value} {s : WS} (h : Bo w l qv s) (k : Nat) (m m' : PM) (hk : s.ms[k]? = some m) (c : CS) (e : m'.ix = m.ix ∧ m'.pb = m.pb ∧ m'.rb = m.rb)
    (c2 : CH w2 l.L s.Q c.S (l.X m.ix) c.x) (k2 : Keeps (mkF l.L (l.X m.ix) m.pb) w w2) (r3 : RC w3 l.R l.cap qv s.Q c.S (l.Y m.ix) (l.hc m.ix) c.x) (k3 : Keeps (mrF l.R qv s.S (l.Y m.ix) m.rb) w2 w3) (hm : m'.H w3 l) (hs : Same s.S (s.x m.ix) c) (hw : WdOk c.S c.x) (hok : m'.ok c.x) : Bo w3 l qv (s.step c m.ix k m') ∧ Keeps (fun g => mkF l.L (l.X m.ix) m.pb g ∨ mrF l.R qv s.S (l.Y m.ix) m.rb g) w w3 := by
  have hmem := List.mem_of_getElem? hk
  have c3 := c2.keeps k3 (fun g hg => h.dj2 hmem g hg)
  have kk : Keeps (fun g => mkF l.L (l.X m.ix) m.pb g ∨ mrF l.R qv s.S (l.Y m.ix) m.rb g) w w3 := (k2.mono (fun _ e => .inl e)).trans (k3.mono (fun _ e => .inr e))
  exact ⟨h.step k m m' hk c e c3.a c3.i r3.a r3.i hm kk hs hw hok, kk⟩
theorem set_pmC {ms : List PM} {k : Nat} {m m' : PM} (hk : ms[k]? = some m) (e : pmC m' = pmC m) (i : Nat) : ((ms.set k m')[i]?).map pmC = (ms[i]?).map pmC := by
  rw [List.getElem?_set]
  by_cases h : k = i
  · subst h
    rw [if_pos rfl, hk, if_pos (List.getElem?_eq_some_iff.1 hk).1]
    show some (pmC m') = some (pmC m)
    rw [e]
  · rw [if_neg h]
/-- The law's world behind a step of machine k. -/
theorem St4.both {w w2 w3 : World} {B wb : Nat} {hold : Int} {l : WL} {qv av : Value} {s : WS} (h : St4 w B wb hold l qv av s) (k : Nat) (m m' : PM) (hk : s.ms[k]? = some m) (c : CS) (e : m'.ix = m.ix ∧ m'.pb = m.pb ∧ m'.rb = m.rb) (ek : m'.kd = m.kd)
    (c2 : CH w2 l.L s.Q c.S (l.X m.ix) c.x) (k2 : Keeps (mkF l.L (l.X m.ix) m.pb) w w2) (r3 : RC w3 l.R l.cap qv s.Q c.S (l.Y m.ix) (l.hc m.ix) c.x) (k3 : Keeps (mrF l.R qv s.S (l.Y m.ix) m.rb) w2 w3) (hm : m'.H w3 l) (hs : Same s.S (s.x m.ix) c) (hw : WdOk c.S c.x) (hok : m'.ok c.x) (hB : B ≤ w.heap.size) : St4 w3 B wb hold l qv av (s.step c m.ix k m') ∧ Below B w w3 := by
  obtain ⟨b3, kk⟩ := h.b.both k m m' hk c e c2 k2 r3 k3 hm hs hw hok
  have hmem := List.mem_of_getElem? hk
  have mi := (h.b.m m hmem).2.1
  refine h.go b3 kk (fun g hg => ?_) (fun g hg => .inl (step_aF hk e.2 hs.1 hs.2.2.1 g hg)) rfl rfl rfl rfl (.inr (fun i => set_pmC hk ?_ i)) hB
  · rcases hg with ((e | e) | e) | ((e | e) | e)
    · exact .inl (.inl e)
    · exact .inl (.inr ⟨_, mi, e⟩)
    · exact .inr (.inr ⟨m, hmem, .inl e⟩)
    · exact .inr (.inl (.inl e))
    · exact .inr (.inl (.inr ⟨_, mi, e⟩))
    · exact .inr (.inr ⟨m, hmem, .inr e⟩)
  · unfold pmC
    rw [ek, e.2.1, e.2.2]
end Go.Proofs.YteekompojgbkhaaGreat

namespace Go.Proofs.YteekompojgbkhaaGreat
open Go.ChangeShapes Go.WideShapes Go.ChangeAt Go.RowKit Go.MuLone Go.RwLone
set_option linter.unusedVariables false
set_option maxRecDepth 100000
set_option maxHeartbeats 6400000
/-- A pair in the law's row. -/
theorem St4.pair {w : World} {B wb : Nat} {hold : Int} {l : WL} {qv : Value} {g n cap : Nat} {s : WS} (h : St4 w B wb hold l qv (.slice (some ⟨g, 0, none⟩) n cap) s) (k : Nat) (m : PM) (hk : s.ms[k]? = some m) (j : Nat) (hj : j < 7) : w.cell? ⟨g, k * 7 + j, none⟩ = (pmC m)[j]? := by
  obtain ⟨h1, h2⟩ := List.getElem?_eq_some_iff.1 hk
  have ho := h.o
  have hn := (owG_cap ho).1
  subst hn
  have c0 := flat_get pmC 7 (fun _ => rfl) s.ms k h1 j hj
  rw [World.ownsRow.cellAt ho (k * 7 + j) (by omega), c0, h2]
end Go.Proofs.YteekompojgbkhaaGreat
