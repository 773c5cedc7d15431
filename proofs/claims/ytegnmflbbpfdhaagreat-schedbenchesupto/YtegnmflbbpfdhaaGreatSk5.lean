import Derived.Test.YtegnmflbbpfdhaaGreatSk4
import Derived.Test.YtegnmflbbpfdhaaGreatSj1
namespace Go.Proofs.YtegnmflbbpfdhaaGreat
open Go.ChangeShapes Go.WideShapes Go.ChangeAt Go.RowKit Go.MuLone Go.RwLone
set_option linter.unusedVariables false
set_option maxRecDepth 100000
set_option maxHeartbeats 6400000
/-- A program laid out on both sides, or on neither; all blocks are in F. -/
def Side (w : World) (F : Nat → Prop) (o p : Option Addr) : Prop :=
  (o = none ∧ p = none) ∨ ∃ G H B bb hb qb tv R rh rq ts wd a, o = some ⟨bb, 0, none⟩ ∧ p = some ⟨R.bk, 0, none⟩ ∧ PairOk B R ts wd ∧ Pair w G H B bb hb qb tv R rh rq ts a ∧ ∀ y, G y ∨ H y → F y
theorem Side.keeps {w w' : World} {F D : Nat → Prop} {o p : Option Addr} (h : Side w F o p) (k : Keeps D w w') (hD : ∀ y, D y → ¬ F y) : Side w' F o p := by
  rcases h with h | ⟨G, H, B, bb, hb, qb, tv, R, rh, rq, ts, wd, a, e1, e2, ok, pr, hF⟩
  · exact .inl h
  · exact .inr ⟨G, H, B, bb, hb, qb, tv, R, rh, rq, ts, wd, a, e1, e2, ok, pr.keeps k (fun y e e' => hD y e (hF y (.inl e'))) (fun y e e' => hD y e (hF y (.inr e'))), hF⟩
theorem Side.nils {w : World} {F : Nat → Prop} {o p : Option Addr} (h : Side w F o p) : o.isNone = p.isNone := by
  rcases h with ⟨rfl, rfl⟩ | ⟨G, H, B, bb, hb, qb, tv, R, rh, rq, ts, wd, a, rfl, rfl, _⟩ <;> rfl
theorem bench_any (w : World) (F : Nat → Prop) (o p : Option Addr) (h : Side w F o p) (hp : p.isNone = false) (se lk : Bool) (s : ByteArray) (hs : s.size ≤ 1048576) :
    Calls Tryz.prog 16 #[.pointer o, .pointer p, .agg #[.bool se, .bool lk, .string s]] w fun e w' => e = .returned (.bool true) ∧ ∃ F', Side w' F' o p ∧ (∀ y, F' y → F y ∨ w.heap.size ≤ y) ∧ (∀ y, F' y → y < w'.heap.size) ∧ Keeps F w w' := by
  rcases h with ⟨rfl, rfl⟩ | ⟨G, H, B, bb, hb, qb, tv, R, rh, rq, ts, wd, a, rfl, rfl, ok, pr, hF⟩
  · cases hp
  · have post : ∀ w', TurnP w G H B bb hb qb tv R rh rq ts w' → ∃ F', Side w' F' (some ⟨bb, 0, none⟩) (some ⟨R.bk, 0, none⟩) ∧ (∀ y, F' y → F y ∨ w.heap.size ≤ y) ∧ (∀ y, F' y → y < w'.heap.size) ∧ Keeps F w w' := by
      rintro w' ⟨G', H', a', pr', g1, h1, k⟩
      refine ⟨fun y => G' y ∨ H' y, .inr ⟨G', H', B, bb, hb, qb, tv, R, rh, rq, ts, wd, a', rfl, rfl, ok, pr', fun y e => e⟩, fun y e => ?_, fun y e => e.elim (pr'.b.gl y) (pr'.r.gl y), k.mono (fun y e => hF y e)⟩
      rcases e with e | e
      · exact (g1 y e).imp (fun e => hF y (.inl e)) id
      · exact (h1 y e).imp (fun e => hF y (.inr e)) id
    cases lk with
    | false => exact (bench_play w G H B bb hb qb tv R rh rq ts wd a ok pr se s hs).mono fun e w' ⟨he, ht⟩ => ⟨he, post w' ht⟩
    | true => exact (bench_look w G H B bb hb qb tv R rh rq ts wd a ok pr se s).mono fun e w' ⟨he, ht⟩ => ⟨he, post w' ht⟩
/-- What the program's Lay answers; the document's. -/
def LayP (w : World) (G : Nat → Prop) (o : Option Addr) (cs : List Int) (ts : List (List I8)) : Prop :=
  (soundP cs ts = false ∧ o = none) ∨ (soundP cs ts = true ∧ ∃ B bb hb qb tv, o = some ⟨bb, 0, none⟩ ∧ BdOk B ∧ B.n = ts.length ∧ B.wd = cs.length ∧ B.ins = insL ts ∧ BnF w G B bb hb qb tv (begA cs ts))
def LayR (w : World) (H : Nat → Prop) (p : Option Addr) (cs : List Int) (ts : List (List I8)) : Prop :=
  (soundP cs ts = false ∧ p = none) ∨ (soundP cs ts = true ∧ ∃ R hb qb, p = some ⟨R.bk, 0, none⟩ ∧ RdOk R ∧ R.n = ts.length ∧ R.wd = cs.length ∧ R.ins = insL ts ∧ BsF w H R hb qb (begA cs ts))
theorem LayP.keeps {w w' : World} {G D : Nat → Prop} {o : Option Addr} {cs : List Int} {ts : List (List I8)} (h : LayP w G o cs ts) (k : Keeps D w w') (hD : ∀ y, D y → ¬ G y) : LayP w' G o cs ts := by
  rcases h with h | ⟨hs, B, bb, hb, qb, tv, e, h1, h2, h3, h4, b⟩
  · exact .inl h
  · exact .inr ⟨hs, B, bb, hb, qb, tv, e, h1, h2, h3, h4, b.keeps k hD⟩
theorem LayR.keeps {w w' : World} {G D : Nat → Prop} {o : Option Addr} {cs : List Int} {ts : List (List I8)} (h : LayR w G o cs ts) (k : Keeps D w w') (hD : ∀ y, D y → ¬ G y) : LayR w' G o cs ts := by
  rcases h with h | ⟨hs, R, hb, qb, e, h1, h2, h3, h4, b⟩
  · exact .inl h
  · exact .inr ⟨hs, R, hb, qb, e, h1, h2, h3, h4, b.keeps k hD⟩
theorem side_of {w : World} {G H : Nat → Prop} {o p : Option Addr} {cs : List Int} {ts : List (List I8)} (h1 : LayP w G o cs ts) (h2 : LayR w H p cs ts) (dj : ∀ y, G y → ¬ H y) : Side w (fun y => G y ∨ H y) o p := by
  rcases h1 with ⟨s1, e1⟩ | ⟨s1, B, bb, hb, qb, tv, e1, b1, b2, b3, b4, b⟩
  · rcases h2 with ⟨s2, e2⟩ | ⟨s2, _⟩
    · exact .inl ⟨e1, e2⟩
    · rw [s1] at s2; cases s2
  · rcases h2 with ⟨s2, e2⟩ | ⟨s2, R, rh, rq, e2, r1, r2, r3, r4, r⟩
    · rw [s1] at s2; cases s2
    · obtain ⟨f1, f2, _⟩ := sound_facts s1
      obtain ⟨j, ph⟩ := beg_facts s1
      exact .inr ⟨G, H, B, bb, hb, qb, tv, R, rh, rq, ts, cs.length, begA cs ts, e1, e2, ⟨b1, r1, b2, b3, b4, r2, r3, r4, f2, f1.2⟩, ⟨b, r, dj, j, ph⟩, fun y e => e⟩
theorem layV (w : World) (C : Nat) (ca : Option Addr) (cc : Nat) (ta : Option Addr) (tc : Nat) (tvf : Nat → Value) (cs : List Int) (tl : List (List I8)) (h : LitG w C ca cc ta tc tvf cs tl) (hC : C ≤ w.heap.size) (hco : csOk cs) (hio : ∀ l ∈ tl, ∀ x ∈ l, immOk x) :
    Calls Tryz.prog 12 #[.agg (litC ca cs.length cc ta tl.length tc)] w fun e w' => ∃ o, e = .returned (.tuple #[.pointer o, .int .i64 (outE cs tl)]) ∧ LayP w' (fun y => w.heap.size ≤ y ∧ y < w'.heap.size) o cs tl ∧ Keeps (fun _ => False) w w' := by
  unfold outE
  by_cases hsd : soundP cs tl = true
  · rw [if_pos hsd]
    refine (layB w C ca cc ta tc tvf cs tl h hC hsd hco hio).mono ?_
    rintro e w' ⟨B, bb, hb, qb, tv, he, h1, h2, h3, h4, b⟩
    exact ⟨_, he, .inr ⟨hsd, B, bb, hb, qb, tv, rfl, h1, h2, h3, h4, BnF.of b⟩, below_keeps b.bl⟩
  · rw [if_neg hsd]
    refine (lay_no w C ca cc ta tc tvf cs tl h hC (by simpa using hsd)).mono ?_
    rintro e w' ⟨he, k⟩
    exact ⟨none, he, .inl ⟨by simpa using hsd, rfl⟩, k⟩
theorem rlayV (w : World) (C : Nat) (ca : Option Addr) (cc : Nat) (ta : Option Addr) (tc : Nat) (tvf : Nat → Value) (cs : List Int) (tl : List (List I8)) (h : LitG w C ca cc ta tc tvf cs tl) (hC : C ≤ w.heap.size) :
    Calls Tryz.prog 15 #[.agg (litC ca cs.length cc ta tl.length tc)] w fun e w' => ∃ o, e = .returned (.tuple #[.pointer o, .int .i64 (outE cs tl)]) ∧ LayR w' (fun y => w.heap.size ≤ y ∧ y < w'.heap.size) o cs tl ∧ Keeps (fun _ => False) w w' := by
  unfold outE
  by_cases hsd : soundP cs tl = true
  · rw [if_pos hsd]
    refine (rlay_any w C ca cc ta tc tvf cs tl h hC hsd).mono ?_
    rintro e w' ⟨R, hb, qb, he, h1, h2, h3, h4, b⟩
    exact ⟨_, he, .inr ⟨hsd, R, hb, qb, rfl, h1, h2, h3, h4, BsF.of b⟩, below_keeps b.bl⟩
  · rw [if_neg hsd]
    refine (rlay_no w C ca cc ta tc tvf cs tl h hC (by simpa using hsd)).mono ?_
    rintro e w' ⟨he, k⟩
    exact ⟨none, he, .inl ⟨by simpa using hsd, rfl⟩, k⟩
/-- What was lent, and the block that tells of it. -/
structure LtB (W : World) (lo bx : Nat) (cs : List Int) (ts : List (List I8)) (gc gcap : Nat) (tvv : Value) (ab acap : Nat) (ps : List (Value × List I8)) (v79 : Value) : Prop where
  lt : Lt W lo cs ts gc gcap tvv ab acap ps v79
  x : W.heap[bx]? = some (.cells #[.slice (some ⟨gc, 0, none⟩) cs.length gcap, .slice (some ⟨ab, 0, none⟩) ts.length acap, .slice (some ⟨gc, 0, none⟩) (cs.length + 2) gcap, tvv, .slice (some ⟨ab, 0, none⟩) (ts.length + 1) acap] 46)
  tp : ∀ x, ltQ gc tvv ab ps v79 x → x < bx
section
variable {W W' : World} {lo bx : Nat} {cs : List Int} {ts : List (List I8)} {gc gcap : Nat} {tvv : Value} {ab acap : Nat} {ps : List (Value × List I8)} {v79 : Value}
theorem LtB.keeps {D : Nat → Prop} (h : LtB W lo bx cs ts gc gcap tvv ab acap ps v79) (hb : lo ≤ bx) (k : Keeps D W W') (hD : ∀ x, D x → x < lo ∨ bx < x) : LtB W' lo bx cs ts gc gcap tvv ab acap ps v79 :=
  ⟨h.lt.keeps k (fun x hx e => by have := h.tp x hx; have := (h.lt.lq x hx).1; rcases hD x e with e | e <;> omega), (k.block _ (Array.getElem?_eq_some_iff.1 h.x).1 (fun e => by rcases hD _ e with e | e <;> omega)).trans h.x, h.tp⟩
theorem LtB.still (h : LtB W lo bx cs ts gc gcap tvv ab acap ps v79) (k : Keeps (fun _ => False) W W') : LtB W' lo bx cs ts gc gcap tvv ab acap ps v79 :=
  ⟨h.lt.keeps k (fun x hx e => e), (k.block _ (Array.getElem?_eq_some_iff.1 h.x).1 (fun e => e)).trans h.x, h.tp⟩
theorem LtB.new (h : Lt W lo cs ts gc gcap tvv ab acap ps v79) : LtB (W.alloc (.cells #[.slice (some ⟨gc, 0, none⟩) cs.length gcap, .slice (some ⟨ab, 0, none⟩) ts.length acap, .slice (some ⟨gc, 0, none⟩) (cs.length + 2) gcap, tvv, .slice (some ⟨ab, 0, none⟩) (ts.length + 1) acap] 46)) lo W.heap.size cs ts gc gcap tvv ab acap ps v79 :=
  ⟨h.keeps ((Keeps.refl (fun _ => False) _).alloc _) (fun _ _ e => e), heap_alloc_last _ _ _ rfl, fun x hx => (h.lq x hx).2⟩
theorem LtB.cells (h : LtB W lo bx cs ts gc gcap tvv ab acap ps v79) : W.cell? ⟨bx, 0, none⟩ = some (.slice (some ⟨gc, 0, none⟩) cs.length gcap) ∧ W.cell? ⟨bx, 1, none⟩ = some (.slice (some ⟨ab, 0, none⟩) ts.length acap) ∧ W.cell? ⟨bx, 2, none⟩ = some (.slice (some ⟨gc, 0, none⟩) (cs.length + 2) gcap) ∧ W.cell? ⟨bx, 3, none⟩ = some tvv ∧ W.cell? ⟨bx, 4, none⟩ = some (.slice (some ⟨ab, 0, none⟩) (ts.length + 1) acap) := ⟨(cell?_heap h.x 0).trans rfl, (cell?_heap h.x 1).trans rfl, (cell?_heap h.x 2).trans rfl, (cell?_heap h.x 3).trans rfl, (cell?_heap h.x 4).trans rfl⟩
end
/-- A turn's cells. -/
abbrev Tu := Bool × Bool × ByteArray
def tuC (x : Tu) : List Value := [.bool x.1, .bool x.2.1, .string x.2.2]
/-- The two programs handed in, their blocks, the turns. -/
structure KB (w W : World) (C : Nat) (ca : Option Addr) (cc : Nat) (ta : Option Addr) (tc : Nat) (tvf : Nat → Value) (cs : List Int) (ts : List (List I8)) (da : Option Addr) (dc : Nat) (ea : Option Addr) (ec : Nat) (evf : Nat → Value) (ds : List Int) (es : List (List I8)) (ua : Option Addr) (uc : Nat) (us : List Tu) : Prop where
  l : LitG W C ca cc ta tc tvf cs ts
  m : LitG W C da dc ea ec evf ds es
  bl : W.heap[w.heap.size]? = some (.cells (litC ca cs.length cc ta ts.length tc) 27)
  bm : W.heap[w.heap.size + 1]? = some (.cells (litC da ds.length dc ea es.length ec) 27)
  u : InG tuC W C (.slice ua us.length uc) us
  hC : C ≤ w.heap.size
  be : Below w.heap.size w W
section
variable {w W W' : World} {C : Nat} {ca : Option Addr} {cc : Nat} {ta : Option Addr} {tc : Nat} {tvf : Nat → Value} {cs : List Int} {ts : List (List I8)} {da : Option Addr} {dc : Nat} {ea : Option Addr} {ec : Nat} {evf : Nat → Value} {ds : List Int} {es : List (List I8)} {ua : Option Addr} {uc : Nat} {us : List Tu}
theorem KB.keeps {D : Nat → Prop} (h : KB w W C ca cc ta tc tvf cs ts da dc ea ec evf ds es ua uc us) (k : Keeps D W W') (hD : ∀ x, D x → w.heap.size + 2 ≤ x) : KB w W' C ca cc ta tc tvf cs ts da dc ea ec evf ds es ua uc us := by
  have s := (Array.getElem?_eq_some_iff.1 h.bm).1
  have hC := h.hC
  have b : Below w.heap.size W W' := k.below (by omega) (fun x hx e => by have := hD x e; omega)
  exact ⟨h.l.later (b.mono hC), h.m.later (b.mono hC), (k.block _ (by omega) (fun e => by have := hD _ e; omega)).trans h.bl, (k.block _ (by omega) (fun e => by have := hD _ e; omega)).trans h.bm, h.u.later (b.mono hC), h.hC, h.be.trans b⟩
theorem KB.still (h : KB w W C ca cc ta tc tvf cs ts da dc ea ec evf ds es ua uc us) (k : Keeps (fun _ => False) W W') : KB w W' C ca cc ta tc tvf cs ts da dc ea ec evf ds es ua uc us := h.keeps k (fun _ e => e.elim)
theorem KB.cells (h : KB w W C ca cc ta tc tvf cs ts da dc ea ec evf ds es ua uc us) : W.cell? ⟨w.heap.size, 0, none⟩ = some (.slice ca cs.length cc) ∧ W.cell? ⟨w.heap.size, 1, none⟩ = some (.slice ta ts.length tc) ∧ W.cell? ⟨w.heap.size + 1, 0, none⟩ = some (.slice da ds.length dc) ∧ W.cell? ⟨w.heap.size + 1, 1, none⟩ = some (.slice ea es.length ec) := ⟨(cell?_heap h.bl 0).trans rfl, (cell?_heap h.bl 1).trans rfl, (cell?_heap h.bm 0).trans rfl, (cell?_heap h.bm 1).trans rfl⟩
theorem KB.sz (h : KB w W C ca cc ta tc tvf cs ts da dc ea ec evf ds es ua uc us) : w.heap.size + 2 ≤ W.heap.size := (Array.getElem?_eq_some_iff.1 h.bm).1
end
end Go.Proofs.YtegnmflbbpfdhaaGreat
