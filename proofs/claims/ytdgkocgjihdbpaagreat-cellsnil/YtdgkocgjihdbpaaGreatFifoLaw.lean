import Derived.Test.YtdgkocgjihdbpaaGreatOwnI
import Derived.Test.YtdgkocgjihdbpaaGreatCells3
namespace Go.Proofs.YtdgkocgjihdbpaaGreat
open Go.ChangeShapes Go.WideShapes Go.ChangeAt Go.RowKit
set_option linter.unusedVariables false
set_option maxRecDepth 100000
set_option maxHeartbeats 3200000
theorem num_any (x : Int) (w : World) : Calls Tryz.prog 5 #[.int .i64 x] w fun e w' => e = .returned (.int .i64 x) ∧ w' = w := by
  go_enter Tryz.func5, Tryz.ntmps5
  go_wp2
  go_ret
  exact ⟨rfl, rfl⟩
theorem infoBl : (Tryz.prog.info? 4).map (fun i => (i.zero, i.size, i.bytes)) = some (some (.bool false), 1, 1) := by kernel_rfl
/-- What holds all along: the arena's blocks are new, nothing old is changed. -/
structure FreS (w : World) (L : Lay) (n front count : Nat) (ring : Nat → Int) (use : Nat → Bool) (wr : World) : Prop where
  new : ∀ g, L.has g → w.heap.size ≤ g
  q : FQ wr L n front count ring use
  old : Below w.heap.size w wr
theorem FreS.step {w wr w' : World} {L : Lay} {n front count front' count' : Nat} {ring ring' : Nat → Int} {use use' : Nat → Bool} (h : FreS w L n front count ring use wr) (hq : FQ w' L n front' count' ring' use') (hk : Keeps L.has wr w') : FreS w L n front' count' ring' use' w' :=
  ⟨h.new, hq, h.old.trans (hk.below h.old.size (fun k hk e => by have := h.new k e; omega))⟩
theorem FQ.lt {w : World} {L : Lay} {n front count : Nat} {ring : Nat → Int} {use : Nat → Bool} (h : FQ w L n front count ring use) : ∀ g, L.has g → g < w.heap.size := by
  obtain ⟨S, h, h1⟩ := h
  intro g hg
  rcases hg with rfl | rfl | rfl | rfl <;> first | exact h.lb | exact h.ls | exact h.lu | exact h.lq
theorem nodup_len : ∀ (n : Nat) (F : List Int), F.Nodup → (∀ x ∈ F, 1 ≤ x ∧ x ≤ (n : Int)) → F.length ≤ n
  | 0, F, _, hr => by
    cases F with
    | nil => simp
    | cons a l => have := hr a (by simp); omega
  | n + 1, F, hd, hr => by
    have ih := nodup_len n (F.erase ((n : Int) + 1)) (hd.erase _) (fun x hx => by
      have h1 := (List.Nodup.mem_erase_iff hd).1 hx
      have h2 := hr x h1.2
      have h3 : x ≠ (n : Int) + 1 := h1.1
      push_cast at h2
      omega)
    have := List.length_erase (a := (n : Int) + 1) (l := F)
    split at this <;> omega
/-- The second loop: F is what was freed. -/
structure G2 (w : World) (L : Lay) (n gG B : Nat) (freed : Value) (F : List Int) (wr : World) : Prop where
  fs : ∃ ring use, FreS w L n 0 F.length ring use wr ∧ (∀ q (h : q < F.length), ring q = F[q]) ∧ (∀ k : Nat, k < n → ((k : Int) + 1) ∉ F → use k = true)
  own : ownI wr B freed F
  nd : F.Nodup
  rng : ∀ x ∈ F, 1 ≤ x ∧ x ≤ (n : Int)
  gone : ∀ s : Nat, s ≤ n → wr.cell? ⟨gG, s, none⟩ = some (.bool (decide ((s : Int) ∈ F)))
  gfz : ∀ s, wr.frozen? ⟨gG, s, none⟩ = false
  gB : gG < B
  gL : ¬ L.has gG
  LB : ∀ g, L.has g → g < B
  wB : B ≤ wr.heap.size
  wG : w.heap.size ≤ gG
theorem G2.start {w wr : World} {L : Lay} {n : Nat} {ring : Nat → Int} {use : Nat → Bool} (h : FreS w L n 0 0 ring use wr) (hu : ∀ k, k < n → use k = true) : G2 w L n wr.heap.size (wr.heap.size + 1) (.slice none 0 0) [] (wr.alloc (.cells (madeCells #[.bool false] (n + 1)) 4)) := by
  have hl := h.q.lt
  have hg := heap_alloc_new wr (.cells (madeCells #[.bool false] (n + 1)) 4)
  refine ⟨⟨ring, use, ⟨h.new, h.q.keeps ((Keeps.refl (fun _ => False) wr).alloc _) (fun _ _ e => e), h.old.trans (((Below.refl w.heap.size wr).alloc h.old.size _))⟩, fun q hq => by simp at hq, fun k hk _ => hu k hk⟩, ownI_nil _ _, by simp, by simp, fun s hs => ?_, fun s => frozen?_heap hg s, by omega, fun e => by have := hl _ e; omega, fun g e => by have := hl g e; omega, by simp, h.old.size⟩
  rw [cell?_heap hg, getElem?_made _ _ _ (by omega)]
  simp [Nat.mod_one]
theorem G2.lt {w wr : World} {L : Lay} {n gG B : Nat} {freed : Value} {F : List Int} (h : G2 w L n gG B freed F wr) {k : Nat} (hk : k < n) (hn : ((k : Int) + 1) ∉ F) : F.length < n ∧ (F ++ [(k : Int) + 1]).Nodup ∧ (∀ x ∈ F ++ [(k : Int) + 1], 1 ≤ x ∧ x ≤ (n : Int)) := by
  have h1 : (F ++ [(k : Int) + 1]).Nodup := by
    rw [List.nodup_append]
    refine ⟨h.nd, by simp, fun a ha b hb => ?_⟩
    simp at hb
    rintro rfl
    exact hn (hb ▸ ha)
  have h2 : ∀ x ∈ F ++ [(k : Int) + 1], 1 ≤ x ∧ x ≤ (n : Int) := by
    intro x hx
    rcases List.mem_append.1 hx with hx | hx
    · exact h.rng x hx
    · simp at hx; omega
  have := nodup_len n _ h1 h2
  simp at this
  exact ⟨by omega, h1, h2⟩
theorem G2.own1 {w wr : World} {L : Lay} {n gG B : Nat} {freed : Value} {F : List Int} (h : G2 w L n gG B freed F wr) (j : Nat) (u : Value) : ownI (wr.setCell ⟨gG, j, none⟩ u) B freed F :=
  h.own.keeps ((Keeps.refl (fun k => k = gG) wr).setCell (p := ⟨gG, j, none⟩) rfl u) (fun g hg e => by have := h.gB; omega)
/-- Behind the append. -/
structure G3 (w : World) (L : Lay) (n gG B k : Nat) (freed : Value) (F : List Int) (w2 : World) : Prop where
  fs : ∃ ring use, FreS w L n 0 F.length ring use w2 ∧ (∀ q (h : q < F.length), ring q = F[q]) ∧ (∀ k : Nat, k < n → ((k : Int) + 1) ∉ F → use k = true)
  own : ownI w2 B freed (F ++ [(k : Int) + 1])
  gone : ∀ s : Nat, s ≤ n → w2.cell? ⟨gG, s, none⟩ = some (.bool (decide ((s : Int) ∈ F ++ [(k : Int) + 1])))
  gfz : ∀ s, w2.frozen? ⟨gG, s, none⟩ = false
  gB : gG < B
  gL : ¬ L.has gG
  LB : ∀ g, L.has g → g < B
  wB : B ≤ w2.heap.size
  wG : w.heap.size ≤ gG
theorem G2.mid {w wr w2 : World} {L : Lay} {n gG B k : Nat} {freed v' : Value} {F : List Int} (h : G2 w L n gG B freed F wr) (hk : k < n) (ho : ownI w2 B v' (F ++ [(k : Int) + 1])) (hb : Below B (wr.setCell ⟨gG, k + 1, none⟩ (.bool true)) w2) : G3 w L n gG B k v' F w2 := by
  obtain ⟨ring, use, hf, hr, hu⟩ := h.fs
  have hK : Keeps (fun k => k = gG) wr (wr.setCell ⟨gG, k + 1, none⟩ (.bool true)) := (Keeps.refl (fun k => k = gG) wr).setCell (p := ⟨gG, k + 1, none⟩) rfl _
  have q1 := hf.q.keeps hK (fun g hg e => h.gL (e ▸ hg))
  refine ⟨⟨ring, use, ⟨hf.new, q1.below hb h.LB, (hf.old.setCell (p := ⟨gG, k + 1, none⟩) h.wG _).trans (hb.mono (by have := h.wG; have := h.gB; omega))⟩, hr, hu⟩, ho, fun s hs => ?_, fun s => ?_, h.gB, h.gL, h.LB, Nat.le_trans h.wB (by have := hb.size; simpa using this), h.wG⟩
  · rw [hb.cell (p := ⟨gG, s, none⟩) h.gB]
    by_cases e : s = k + 1
    · subst e
      rw [World.cell?_setCell_same _ _ _ (h.gone (k + 1) (by omega))]
      simp
    · rw [World.cell?_setCell_other _ _ _ _ (fun e' => e (congrArg Addr.off e').symm), h.gone s hs]
      have : ¬ ((s : Int) = (k : Int) + 1) := by omega
      simp [this]
  · rw [hb.frozen (p := ⟨gG, s, none⟩) h.gB]
    simpa using h.gfz s
theorem G3.free {w w2 : World} {L : Lay} {n gG B k : Nat} {freed : Value} {F : List Int} (h : G3 w L n gG B k freed F w2) (hk : k < n) (hn : ((k : Int) + 1) ∉ F) (hl : F.length < n) (hnd : (F ++ [(k : Int) + 1]).Nodup) (hrg : ∀ x ∈ F ++ [(k : Int) + 1], 1 ≤ x ∧ x ≤ (n : Int)) :
    Calls Tryz.prog 15 #[.pointer (some ⟨L.b, 0, none⟩), .int .i64 ((k : Int) + 1)] w2 fun e w' => e = .returned (.int .i64 0) ∧ Hid (G2 w L n gG B freed (F ++ [(k : Int) + 1]) w') := by
  obtain ⟨ring, use, hf, hr, hu⟩ := h.fs
  refine (fq_free L w2 n 0 F.length k ring use hf.q (by omega) (by omega) hk (hu k hk hn)).mono ?_
  rintro e w' ⟨rfl, q', k'⟩
  refine ⟨rfl, ⟨⟨upd ring ((0 + F.length) % n) ((k : Int) + 1), upd use k false, ?_, fun q hq => ?_, fun j hj hjn => ?_⟩, h.own.keeps k' (fun g hg e => by have := h.LB g e; omega), hnd, hrg, fun s hs => (k'.cell (p := ⟨gG, s, none⟩) (Nat.lt_of_lt_of_le h.gB h.wB) h.gL).trans (h.gone s hs), fun s => (k'.frozen (p := ⟨gG, s, none⟩) (Nat.lt_of_lt_of_le h.gB h.wB) h.gL).trans (h.gfz s), h.gB, h.gL, h.LB, Nat.le_trans h.wB k'.size, h.wG⟩⟩
  · rw [List.length_append]
    exact hf.step q' k'
  · simp only [List.length_append, List.length_singleton] at hq
    rw [Nat.zero_add, Nat.mod_eq_of_lt hl]
    unfold upd
    by_cases e : q = F.length
    · subst e; simp
    · rw [if_neg e, hr q (by omega), List.getElem_append_left (by omega)]
  · have : ¬ (j = k) := fun e => hjn (by subst e; simp)
    unfold upd
    rw [if_neg this]
    exact hu j hj (fun e => hjn (by simp [e]))
end Go.Proofs.YtdgkocgjihdbpaaGreat
