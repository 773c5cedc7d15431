import Derived.Test.YtdpebhdjcgiboaaGreatKSi1
import Derived.Test.YtdpebhdjcgiboaaGreatKSoP
import Derived.Test.YtdpebhdjcgiboaaGreatKSqJ
import Derived.Test.YtdpebhdjcgiboaaGreatKSi9
namespace Go.Proofs.YtdpebhdjcgiboaaGreat
set_option linter.unusedSimpArgs false
open Go.ChangeShapes Go.WideShapes Go.ChangeAt Go.RowKit Go.MuLone Go.RwLone
set_option linter.unusedVariables false
set_option maxRecDepth 100000
set_option maxHeartbeats 3200000
end Go.Proofs.YtdpebhdjcgiboaaGreat

namespace Go.Proofs.YtdpebhdjcgiboaaGreat
set_option linter.unusedSimpArgs false
open Go.ChangeShapes Go.WideShapes Go.ChangeAt Go.RowKit Go.MuLone Go.RwLone
set_option linter.unusedVariables false
set_option maxRecDepth 100000
set_option maxHeartbeats 6400000
/-- Is this outcome among the first t? -/
def anyT (ys : List OuD) (X Y : List Int) (t : Nat) : Bool := (ys.take t).any (fun y => decide (y.X = X) && decide (y.Y = Y))
theorem end_out {cs : List Int} {tl : List (List I8)} (hsd : soundP cs tl = true) (vs : List (Int × Int × Int)) : OutOf cs tl (encS (endA cs tl vs).2) (wlL (endA cs tl vs).2.wo cs.length) (regsL (endA cs tl vs).2.rg tl.length) := by
  obtain ⟨hc4, hn4, _⟩ := sound_facts hsd
  obtain ⟨hc, _⟩ := end_reach hsd vs
  unfold OutOf
  rw [dec_enc hc hc4.2 hn4.2]
  exact ⟨rfl, rfl⟩
/-- The word of an end, run: its outcome. -/
theorem word_out {cs : List Int} {tl : List (List I8)} (hsd : soundP cs tl = true) {ws : List Nat} {u X Y : List Int} (hu : EndS cs tl u) (ho : OutOf cs tl u X Y) (hw : wrd (tsL (insL tl) tl.length) ws (encS (begA cs tl).2) u) : wlL (endA cs tl (wpk ws)).2.wo cs.length = X ∧ regsL (endA cs tl (wpk ws)).2.rg tl.length = Y := by
  obtain ⟨hc4, hn4, _⟩ := sound_facts hsd
  have hd : ∀ i, i < tl.length → dnI (insL tl) (decS u) i = true := fun i hi => by
    have := hu.2
    unfold allT at this
    rw [List.all_eq_true] at this
    exact this i (List.mem_range.2 hi)
  have e := end_word hsd hw hd
  obtain ⟨h1, h2⟩ := end_out hsd (wpk ws)
  rw [e] at h1 h2
  rw [h1, h2, ho.1, ho.2]
  exact ⟨rfl, rfl⟩
end Go.Proofs.YtdpebhdjcgiboaaGreat

namespace Go.Proofs.YtdpebhdjcgiboaaGreat
open Go.ChangeShapes Go.WideShapes Go.ChangeAt Go.RowKit Go.MuLone Go.RwLone
set_option linter.unusedVariables false
set_option maxRecDepth 100000
set_option maxHeartbeats 6400000
/-- What Witness answers, whatever the program is. -/
def Wita (w w' : World) (cs : List Int) (tl : List (List I8)) (X Y : List Int) (s : ByteArray) (er : Int) : Prop :=
  Below w.heap.size w w' ∧ (soundP cs tl = false → er = 35 ∧ s = ⟨#[]⟩) ∧ (soundP cs tl = true → (er = 0 ∧ s.size ≤ 64 ∧ HasP cs tl X Y ∧ wlL (endA cs tl (dL s.data.toList)).2.wo cs.length = X ∧ regsL (endA cs tl (dL s.data.toList)).2.rg tl.length = Y) ∨ (er = 36 ∧ s = ⟨#[]⟩ ∧ ¬ HasP cs tl X Y))
theorem witA (w : World) (C : Nat) (ca : Option Addr) (cc : Nat) (ta : Option Addr) (tc : Nat) (tvf : Nat → Value) (cs : List Int) (tl : List (List I8)) (h : LitG w C ca cc ta tc tvf cs tl) (hC : C ≤ w.heap.size) (hco : csOk cs) (hio : ∀ l ∈ tl, ∀ x ∈ l, immOk x) (a1 : Option Addr) (d1 : Nat) (a2 : Option Addr) (d2 : Nat) (X Y : List Int) (h1 : InG wdC w C (.slice a1 X.length d1) X) (h2 : InG wdC w C (.slice a2 Y.length d2) Y) :
    Calls Tryz.prog 21 #[.agg (litC ca cs.length cc ta tl.length tc), .agg #[.slice a1 X.length d1, .slice a2 Y.length d2]] w fun e w' => ∃ s er, e = .returned (.tuple #[.string s, .int .i64 er]) ∧ Wita w w' cs tl X Y s er := by
  cases hsd : soundP cs tl
  · refine (witness_no w C ca cc ta tc tvf cs tl h hC hsd a1 X.length d1 a2 Y.length d2).mono ?_
    rintro e w' ⟨rfl, k⟩
    exact ⟨_, _, rfl, k.below (Nat.le_refl _) (fun _ _ e => e), fun _ => ⟨rfl, rfl⟩, fun e => by rw [hsd] at e; cases e⟩
  · refine (witness_any w C ca cc ta tc tvf cs tl h hC hsd hco hio a1 d1 a2 d2 X Y h1 h2).mono ?_
    rintro e w' ⟨s, er, rfl, b, hw⟩
    refine ⟨_, _, rfl, b, (fun e => by rw [hsd] at e; cases e), fun _ => ?_⟩
    rcases hw with ⟨rfl, hs, u, ws, h1, h2, h3, h4⟩ | ⟨rfl, rfl, hno⟩
    · refine .inl ⟨rfl, hs, ⟨u, h1, h2⟩, ?_⟩
      rw [h4]
      exact word_out hsd h1 h2 h3
    · exact .inr ⟨rfl, rfl, fun ⟨u, h1, h2⟩ => hno u h1 h2⟩
end Go.Proofs.YtdpebhdjcgiboaaGreat
