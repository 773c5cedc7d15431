import Derived.Test.YtdpebhdjcgiboaaGreatKSg7
namespace Go.Proofs.YtdpebhdjcgiboaaGreat
open Go.ChangeShapes Go.WideShapes Go.ChangeAt Go.RowKit Go.MuLone Go.RwLone
set_option linter.unusedVariables false
set_option maxRecDepth 100000
set_option maxHeartbeats 3200000
/-- The machines of a program, with no memory to them. -/
def stI (ins : Nat → List I8) (s : Ls) (m : Nat) : Ls := ⟨(tsP s.wo (s.rg m) (ins m) (s.pl m)).1, upd s.rg m (tsP s.wo (s.rg m) (ins m) (s.pl m)).2.1, upd s.pl m (tsP s.wo (s.rg m) (ins m) (s.pl m)).2.2⟩
def dnI (ins : Nat → List I8) (s : Ls) (m : Nat) : Bool := decide ((ins m).length ≤ s.pl m)
def pureM (ins : Nat → List I8) (n : Nat) : Mc := { σ := Ls, ok := fun _ _ => False, F := fun _ => False, pt := fun _ => 0, N := n, st := stI ins, dn := dnI ins, far := fun h _ _ => h, lt := fun h _ => h.elim, call := fun _ _ _ _ h => h.elim }
section
variable {M M' : Mc} (φ : M.σ → M'.σ)
def mpA (a : Hp × M.σ) : Hp × M'.σ := (a.1, φ a.2)
def mpR (r : Bool × Nat × (Hp × M.σ)) : Bool × Nat × (Hp × M'.σ) := (r.1, r.2.1, mpA φ r.2.2)
end
def insL (ts : List (List I8)) (i : Nat) : List I8 := ts[i]?.getD []
/-- A program at its begin. -/
def begA (cs : List Int) (ts : List (List I8)) : Hp × Ls := (hp0 ts.length, ⟨wds cs, fun _ _ => 0, fun _ => 0⟩)
/-- How it stands behind a schedule and a drain. -/
def endA (cs : List Int) (ts : List (List I8)) (vs : List (Int × Int × Int)) : Hp × Ls := (playP (pureM (insL ts) ts.length) [(6, 0, 0)] 14 (playP (pureM (insL ts) ts.length) vs 14 (begA cs ts)).2.2).2.2
theorem asG_word (cs : List Int) : (asG cs).word = wds cs := by
  funext i
  by_cases hi : i < cs.length
  · exact (asG_facts cs).2.2.2.2.2 i hi
  · have h0 : wds cs i = 0 := by unfold wds; rw [List.getElem?_eq_none (by omega)]; rfl
    rw [h0]
    simp [asG, AS.laid, layW, AS.fresh, hi]
theorem goT_all {wd : Nat} : ∀ (ts : List (List I8)) (lf : Int), lf ≤ 10 → goT wd lf ts = true → ∀ i (hi : i < ts.length), (ts[i].length ≤ 10 ∧ ∀ x ∈ ts[i], sndB wd x = true)
  | [], _, _, _, i, hi => by simp at hi
  | l :: r, lf, hlf, h, i, hi => by
    unfold goT at h
    split at h
    · cases h
    · rename_i hneg
      simp only [Bool.and_eq_true] at h
      match i, hi with
      | 0, _ => exact ⟨by show l.length ≤ 10; omega, fun x hx => List.all_eq_true.1 h.1 x hx⟩
      | i + 1, hi => exact goT_all r _ (by omega) h.2 i (by simpa using hi)
theorem sound_facts {cs : List Int} {ts : List (List I8)} (h : soundP cs ts = true) : (1 ≤ cs.length ∧ cs.length ≤ 4) ∧ (1 ≤ ts.length ∧ ts.length ≤ 4) ∧ ∀ i (hi : i < ts.length), ts[i].length ≤ 10 ∧ ∀ x ∈ ts[i], snd cs.length x := by
  unfold soundP at h
  simp only [Bool.and_eq_true] at h
  have h1 := wiB_t h.1
  have h2 := wiB_t h.2.1
  refine ⟨by omega, by omega, fun i hi => ?_⟩
  have := goT_all ts 10 (by omega) h.2.2 i hi
  exact ⟨this.1, fun x hx => snd_of (this.2 x hx)⟩
theorem lay_no (w : World) (C : Nat) (ca : Option Addr) (cc : Nat) (ta : Option Addr) (tc : Nat) (tvf : Nat → Value) (cs : List Int) (tl : List (List I8)) (h : LitG w C ca cc ta tc tvf cs tl) (hC : C ≤ w.heap.size) (hsd : soundP cs tl = false) :
    Calls Tryz.prog 30 #[.agg (litC ca cs.length cc ta tl.length tc)] w fun e w' => e = .returned (.tuple #[.pointer none, .int .i64 35]) ∧ Keeps (fun _ => False) w w' := by
  have k0 : Keeps (fun _ => False) w (lgW w (litC ca cs.length cc ta tl.length tc)) := (Keeps.refl _ _).alloc _
  have HK0 : Hid (Keeps (fun _ => False) w (lgW w (litC ca cs.length cc ta tl.length tc))) := k0
  have HI := isLit_any (lgW w (litC ca cs.length cc ta tl.length tc)) C ca cc ta tc tvf cs tl (h.later (k0.below hC (fun _ _ e => e))) (by rw [szAl]; omega)
  rw [hsd] at HI
  have HII : Hid (∀ _ : Unit, _) := fun _ => HI
  clear h hsd HI k0
  go_enter Tryz.func30, Tryz.ntmps30
  go_wp2_with fail
  refine (HII.out ()).mono ?_
  rintro e w2 ⟨rfl, k2⟩
  go_wp2
  go_ret2
  exact ⟨rfl, HK0.out.trans k2⟩
abbrev rnG (w : World) (c : Array Value) : World := (lgW w c).alloc (.cells #[.slice none 0 0, .slice none 0 0] 51)
end Go.Proofs.YtdpebhdjcgiboaaGreat

namespace Go.Proofs.YtdpebhdjcgiboaaGreat
open Go.ChangeShapes Go.WideShapes Go.ChangeAt Go.RowKit Go.MuLone Go.RwLone
set_option linter.unusedVariables false
set_option maxRecDepth 100000
set_option maxHeartbeats 3200000
theorem cell_lt {w : World} {a : Addr} {v : Value} (h : w.cell? a = some v) : a.block < w.heap.size := by
  rcases Nat.lt_or_ge a.block w.heap.size with h1 | h1
  · exact h1
  · have : w.heap[a.block]? = none := Array.getElem?_eq_none h1
    simp [World.cell?, this] at h
/-- Words are words. -/
def csOk (cs : List Int) : Prop := ∀ c ∈ cs, 0 ≤ c ∧ c < 18446744073709551616
theorem wds_b {cs : List Int} (h : csOk cs) (i : Nat) (hi : i < cs.length) : 0 ≤ wds cs i ∧ wds cs i < 18446744073709551616 := by
  unfold wds; rw [List.getElem?_eq_getElem hi]; exact h _ (List.getElem_mem hi)
/-- The bench that Lay lays out. -/
theorem layB (w : World) (C : Nat) (ca : Option Addr) (cc : Nat) (ta : Option Addr) (tc : Nat) (tvf : Nat → Value) (cs : List Int) (tl : List (List I8)) (h : LitG w C ca cc ta tc tvf cs tl) (hC : C ≤ w.heap.size) (hsd : soundP cs tl = true) (hco : csOk cs) (hio : ∀ l ∈ tl, ∀ x ∈ l, immOk x) :
    Calls Tryz.prog 30 #[.agg (litC ca cs.length cc ta tl.length tc)] w fun e w' => ∃ B bb hb qb tv, e = .returned (.tuple #[.pointer (some ⟨bb, 0, none⟩), .int .i64 0]) ∧ BdOk B ∧ B.n = tl.length ∧ B.wd = cs.length ∧ B.ins = insL tl ∧ BnG w w' B bb hb qb tv (begA cs tl) := by
  obtain ⟨hc4, hn4, hall⟩ := sound_facts hsd
  refine (layG_any w C ca cc ta tc tvf cs tl h hC hsd hc4 hn4 (fun i hi => (hall i hi).1)).mono ?_
  rintro e w2 ⟨M, L, bb, hb, qb, f, tv, rfl, la⟩
  have sf := asG_facts cs
  have hin : ∀ i, i < tl.length → (∀ x ∈ tl[i]?.getD [], snd cs.length x ∧ immOk x) ∧ (tl[i]?.getD []).length ≤ 1000 := fun i hi => by
    rw [List.getElem?_eq_getElem hi]
    exact ⟨fun x hx => ⟨(hall i hi).2 x hx, hio _ (List.getElem_mem hi) x hx⟩, by have := (hall i hi).1; show tl[i].length ≤ 1000; omega⟩
  refine ⟨bdOf L tl.length cs.length (fun i => tl[i]?.getD []) f, bb, hb, qb, tv, rfl, la.bdok cs.length (fun i hi => (hin i hi).1) (fun i hi => (hin i hi).2), rfl, rfl, rfl, ?_⟩
  have := la.bench cs.length hn4.2 sf.1 sf.2.1 sf.2.2.1 sf.2.2.2.1 sf.2.2.2.2.1 (fun i hi => by rw [asG_word]; exact wds_b hco i hi)
  rw [asG_word] at this
  exact this
abbrev ouW (w5 : World) (r : Nat) (a b : Value) : World := ((w5.alloc (.cells #[a, b] 51)).setCell ⟨r, 0, none⟩ a).setCell ⟨r, 1, none⟩ b
end Go.Proofs.YtdpebhdjcgiboaaGreat
