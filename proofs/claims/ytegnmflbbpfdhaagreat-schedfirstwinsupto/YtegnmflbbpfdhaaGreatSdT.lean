import Derived.Test.YtegnmflbbpfdhaaGreatSdS
namespace Go.Proofs.YtegnmflbbpfdhaaGreat
open Go.ChangeShapes Go.WideShapes Go.ChangeAt Go.RowKit Go.MuLone Go.RwLone
set_option linter.unusedVariables false
set_option maxRecDepth 100000
set_option maxHeartbeats 3200000
/-- The blocks of one thread. -/
structure Bk where
  T : Nat
  ib : Nat
  pb : Nat
  cp : Nat
  cap : Nat
def sw (x0 : Int) (j : Nat) : I8 := ⟨3, 1, 2, -1, nw x0 j, -1, x0, 0⟩
abbrev thA (L : Lay) (iv : Value) : Array Value := #[.pointer (some ⟨L.b, 0, none⟩), .int .i64 1, iv, .int .u64 0, .int .u64 0, .int .u64 0, .int .u64 0, .int .i64 0]
abbrev beA (L : Lay) (tv : Value) (hb : Nat) : Array Value := #[.pointer (some ⟨L.b, 0, none⟩), .int .i64 1, tv, .pointer (some ⟨hb, 0, none⟩)]
abbrev haA (qb n : Nat) : Array Value := #[.slice (some ⟨qb, 0, none⟩) n n, .int .i64 0, .slice none 0 0, .slice none 0 0]
/-- One thread, laid out. -/
structure Each (wr : World) (M : Nat) (L : Lay) (x0 : Int) (j : Nat) (b : Bk) : Prop where
  oi : OwG iC 31 8 wr M (.slice (some ⟨b.ib, 0, none⟩) 1 b.cap) [sw x0 j]
  th : wr.heap[b.T]? = some (.cells (thA L (.slice (some ⟨b.ib, 0, none⟩) 1 b.cap)) 89)
  op : OwG plC 148 3 wr M (.slice (some ⟨b.pb, 0, none⟩) 1 b.cp) [(b.T, (j : Int))]
  o1 : M ≤ b.ib
  o2 : b.ib < b.T
  o3 : b.T < b.pb
  o4 : b.pb < wr.heap.size
theorem Keeps.thin {D : Nat → Prop} {w w' : World} (h : Keeps (fun x => D x ∨ w.heap.size ≤ x) w w') : Keeps D w w' := ⟨h.os, h.tape, h.output, h.size, fun k hk hn => h.block k hk (fun e => e.elim hn (fun e => by omega))⟩
theorem Each.keeps {wr wr' : World} {M : Nat} {L : Lay} {x0 : Int} {j : Nat} {b : Bk} {D : Nat → Prop} (h : Each wr M L x0 j b) (k : Keeps D wr wr') (hD : ∀ x, D x → x < M) : Each wr' M L x0 j b :=
  ⟨h.oi.keeps k hD, (k.block _ (Array.getElem?_eq_some_iff.1 h.th).1 (fun e => by have := hD _ e; have := h.o1; have := h.o2; omega)).trans h.th, h.op.keeps k hD, h.o1, h.o2, h.o3, Nat.lt_of_lt_of_le h.o4 k.size⟩
theorem Each.kpt {wr wr' : World} {M : Nat} {L : Lay} {x0 : Int} {j : Nat} {b : Bk} (h : Each wr M L x0 j b) (k : KpT 75 wr wr') (hs : wr.heap.size ≤ wr'.heap.size) : Each wr' M L x0 j b :=
  ⟨h.oi.kept k (by decide), (k _ _ _ _ h.th (by decide)).trans h.th, h.op.kept k (by decide), h.o1, h.o2, h.o3, Nat.lt_of_lt_of_le h.o4 hs⟩
theorem Each.set {wr : World} {M : Nat} {L : Lay} {x0 : Int} {j : Nat} {b : Bk} (h : Each wr M L x0 j b) {p : Addr} (hp : p.block < M) (u : Value) : Each (wr.setCell p u) M L x0 j b :=
  h.keeps (D := fun x => x < M) (Keeps.setCell (B := fun x => x < M) (Keeps.refl _ _) hp u) (fun _ e => e)
/-- In the midst of laying out: i threads are laid. -/
structure La (w0 wr : World) (M : Nat) (L : Lay) (S : AS) (bb hb qb n : Nat) (x0 : Int) (f : Nat → Bk) (i : Nat) (tv : Value) (ts : List Nat) : Prop where
  hd : Holds wr L S
  be : wr.heap[bb]? = some (.cells (beA L tv hb) 73)
  ha : wr.heap[hb]? = some (.cells (haA qb n) 144)
  qd : ∀ j, j < i → wr.cell? ⟨qb, j, none⟩ = some (.slice (some ⟨(f j).pb, 0, none⟩) 1 (f j).cp)
  qz : ∀ j, i ≤ j → j < n → wr.cell? ⟨qb, j, none⟩ = some (.slice none 0 0)
  qf : ∀ j, wr.frozen? ⟨qb, j, none⟩ = false
  ot : OwT wr M tv ts
  ea : ∀ j, j < i → Each wr M L x0 j (f j)
  oo : ∀ j k, j < k → k < i → (f j).pb < (f k).ib
  bl : Below w0.heap.size w0 wr
  lm : ∀ k, L.has k → w0.heap.size ≤ k ∧ k < M
  hm : w0.heap.size ≤ hb ∧ hb < M
  qm : w0.heap.size ≤ qb ∧ qb < M
  bm : w0.heap.size ≤ bb ∧ bb < M
  ms : M ≤ wr.heap.size
  d1 : ¬ L.has hb
  d2 : ¬ L.has qb
  d3 : ¬ L.has bb
  d4 : hb ≠ qb
  d5 : bb ≠ hb
  d6 : bb ≠ qb
variable {w0 wr : World} {M : Nat} {L : Lay} {S : AS} {bb hb qb n : Nat} {x0 : Int} {f : Nat → Bk} {i : Nat} {tv : Value} {ts : List Nat}
theorem La.still {w' : World} (h : La w0 wr M L S bb hb qb n x0 f i tv ts) (k : Keeps (fun _ => False) wr w') : La w0 w' M L S bb hb qb n x0 f i tv ts := by
  have lq : qb < wr.heap.size := Nat.lt_of_lt_of_le h.qm.2 h.ms
  exact ⟨h.hd.keeps k (fun _ _ e => e), (k.block _ (Array.getElem?_eq_some_iff.1 h.be).1 (fun e => e)).trans h.be, (k.block _ (Array.getElem?_eq_some_iff.1 h.ha).1 (fun e => e)).trans h.ha, fun j hj => (k.cell (p := ⟨qb, j, none⟩) lq (fun e => e)).trans (h.qd j hj), fun j h1 h2 => (k.cell (p := ⟨qb, j, none⟩) lq (fun e => e)).trans (h.qz j h1 h2), fun j => (k.frozen (p := ⟨qb, j, none⟩) lq (fun e => e)).trans (h.qf j), h.ot.keeps k (fun _ e => e.elim), fun j hj => (h.ea j hj).keeps k (fun _ e => e.elim), h.oo, h.bl.trans (k.below h.bl.size (fun _ _ e => e)), h.lm, h.hm, h.qm, h.bm, Nat.le_trans h.ms k.size, h.d1, h.d2, h.d3, h.d4, h.d5, h.d6⟩
/-- A thread more in the bench's row. -/
theorem La.push {w1 : World} {v' : Value} {ts' : List Nat} (h : La w0 wr M L S bb hb qb n x0 f i tv ts) (hbl : Below M wr w1) (hk : KpT 75 wr w1) (ho : OwT w1 M v' ts') : La w0 (w1.setCell ⟨bb, 2, none⟩ v') M L S bb hb qb n x0 f i v' ts' := by
  have e : ∀ g j, g < M → g ≠ bb → (w1.setCell ⟨bb, 2, none⟩ v').cell? ⟨g, j, none⟩ = wr.cell? ⟨g, j, none⟩ := fun g j hg hn => (World.cell?_setCell_other _ _ _ _ (fun e => hn (congrArg Addr.block e).symm)).trans (hbl.cell (p := ⟨g, j, none⟩) hg)
  have eb : w1.heap[bb]? = some (.cells (beA L tv hb) 73) := (hbl.block bb h.bm.2).trans h.be
  refine ⟨(h.hd.kept (fun k hk => hbl.block k (h.lm k hk).2) hbl.size).far (p := ⟨bb, 2, none⟩) h.d3 _, ?_, (Below.heap_setCell _ _ _ _ (fun e => h.d5 e.symm)).trans ((hbl.block hb h.hm.2).trans h.ha), fun j hj => (e qb j h.qm.2 (fun e => h.d6 e.symm)).trans (h.qd j hj), fun j h1 h2 => (e qb j h.qm.2 (fun e => h.d6 e.symm)).trans (h.qz j h1 h2), fun j => ?_, ho.set (p := ⟨bb, 2, none⟩) h.bm.2 _, fun j hj => ((h.ea j hj).kpt hk hbl.size).set (p := ⟨bb, 2, none⟩) h.bm.2 _, h.oo, ?_, h.lm, h.hm, h.qm, h.bm, ?_, h.d1, h.d2, h.d3, h.d4, h.d5, h.d6⟩
  · simp [World.setCell, Array.getElem?_modify, eb]
  · have := World.frozen?_of_block (w := wr) (w' := w1) (a := ⟨qb, j, none⟩) (hbl.block qb h.qm.2)
    simpa using this.trans (h.qf j)
  · exact h.bl.trans ⟨hbl.os, hbl.tape, hbl.output, by simpa using hbl.size, fun k hk => (Below.heap_setCell _ _ _ _ (by have := h.bm; show k ≠ bb; omega)).trans (hbl.block k (by have := h.bm; omega))⟩
  · have := hbl.size
    have := h.ms
    simp
    omega
theorem La.sub {w' : World} {b : Bk} (h : La w0 wr M L S bb hb qb n x0 f i tv ts) (hi : i < n) (hc : w'.cell? ⟨qb, i, none⟩ = some (.slice (some ⟨b.pb, 0, none⟩) 1 b.cp)) (hj : ∀ j, j ≠ i → w'.cell? ⟨qb, j, none⟩ = wr.cell? ⟨qb, j, none⟩) (k0 : Keeps (fun x => x = qb ∨ wr.heap.size ≤ x) wr w') (fq : ∀ j, w'.frozen? ⟨qb, j, none⟩ = false) (e : Each w' M L x0 i b) (hlt : ∀ j, j < i → (f j).pb < b.ib) : La w0 w' M L S bb hb qb n x0 (upd f i b) (i + 1) tv ts := by
  have k := k0.thin
  have hM := h.qm
  have hD : ∀ x, x = qb → x < M := fun x e => by omega
  refine ⟨h.hd.keeps k (fun g hg e => h.d2 (e ▸ hg)), (k.block _ (Array.getElem?_eq_some_iff.1 h.be).1 h.d6).trans h.be, (k.block _ (Array.getElem?_eq_some_iff.1 h.ha).1 h.d4).trans h.ha, fun j hj' => ?_, fun j h1 h2 => ?_, fq, h.ot.keeps k hD, fun j hj' => ?_, fun j m h1 h2 => ?_, h.bl.trans (k.below h.bl.size (fun g hg e => by omega)), h.lm, h.hm, h.qm, h.bm, Nat.le_trans h.ms k.size, h.d1, h.d2, h.d3, h.d4, h.d5, h.d6⟩
  · by_cases e' : j = i
    · subst e'; rw [upd_same]; exact hc
    · rw [upd_other _ _ e', hj j e']; exact h.qd j (by omega)
  · rw [hj j (by omega)]; exact h.qz j (by omega) h2
  · by_cases e' : j = i
    · subst e'; rw [upd_same]; exact e
    · rw [upd_other _ _ e']; exact (h.ea j (by omega)).keeps k hD
  · rw [upd_other _ _ (show j ≠ i by omega)]
    by_cases e' : m = i
    · subst e'; rw [upd_same]; exact hlt j h1
    · rw [upd_other _ _ e']; exact h.oo j m h1 (by omega)
/-- Where the things of a bench that is laid out lie. -/
def adOf (B : Nat) (L : Lay) (hb qb n : Nat) (f : Nat → Bk) : Ad := ⟨B, L, hb, qb, n, fun i => (f i).pb, fun i => (f i).T, fun i => (f i).ib, fun i => (f i).cp, fun i => (f i).cap⟩
theorem owG_cap {α : Type} {cs : α → List Value} {e : TypeId} {c : Nat} {W : World} {B g m cp : Nat} {xs : List α} (h : OwG cs e c W B (.slice (some ⟨g, 0, none⟩) m cp) xs) : m = xs.length ∧ xs.length ≤ cp ∧ cp ≤ 9223372036854775807 ∧ B ≤ g ∧ ∃ cur, W.heap[g]? = some (.cells cur e (0, 0)) := by
  rcases h.2 with ⟨h1, hn⟩ | ⟨g', cap, cur, h1, h2, h3, h4, h5, h6⟩
  · cases h1
  · injection h1 with e1 e2 e3
    injection e1 with e1
    injection e1 with e1
    subst e1 e2 e3
    exact ⟨rfl, h4, by unfold maxLen at h5; omega, h2, cur, h3⟩
theorem La.ly (h : La w0 wr M L S bb hb qb n x0 f n tv ts) (h1 : 1 ≤ n) (h4 : n ≤ 4) : Ly (adOf wr.heap.size L hb qb n f) := by
  have hm := h.ms
  have hq := h.qm
  have hh := h.hm
  have ord : ∀ j k, j < n → k < n → j ≠ k → (f j).pb < (f k).ib ∨ (f k).pb < (f j).ib := fun j k hj hk e => by
    rcases Nat.lt_or_gt_of_ne e with e | e
    · exact .inl (h.oo j k e hk)
    · exact .inr (h.oo k j e hj)
  have each : ∀ j, j < n → M ≤ (f j).ib ∧ (f j).ib < (f j).T ∧ (f j).T < (f j).pb ∧ (f j).pb < wr.heap.size := fun j hj => ⟨(h.ea j hj).o1, (h.ea j hj).o2, (h.ea j hj).o3, (h.ea j hj).o4⟩
  refine ⟨⟨h1, h4⟩, fun i hi => ?_, fun i k hi hk e => ?_, fun i k hi hk e => ?_, fun i k hi hk => ?_, fun i k hi hk => ?_, fun i k hi hk => ?_, fun i hi => ?_⟩
  · have a := each i hi
    have lh : ∀ x, M ≤ x → ¬ L.has x := fun x hx e => by have := (h.lm x e).2; omega
    show Ap L (f i).T (f i).ib hb qb (f i).pb wr.heap.size
    exact ⟨fun k hk => by have := (h.lm k hk).2; omega, by omega, by omega, by omega, by omega, by omega, lh _ (by omega), lh _ (by omega), h.d1, h.d2, lh _ (by omega), by omega, by omega, by omega, by omega, h.d4, by omega, by omega, by omega, by omega, by omega⟩
  · have := each i hi
    have := each k hk
    have := ord i k hi hk e
    show (f i).T ≠ (f k).T
    omega
  · have := each i hi
    have := each k hk
    have := ord i k hi hk e
    show (f i).pb ≠ (f k).pb
    omega
  · have := each i hi
    have := each k hk
    show (f i).T ≠ (f k).pb
    by_cases e : i = k
    · subst e; omega
    · have := ord i k hi hk e
      omega
  · have := each i hi
    have := each k hk
    show (f i).ib ≠ (f k).pb
    by_cases e : i = k
    · subst e; omega
    · have := ord i k hi hk e
      omega
  · have := each i hi
    have := each k hk
    show (f i).ib ≠ (f k).T
    by_cases e : i = k
    · subst e; omega
    · have := ord i k hi hk e
      omega
  · have := owG_cap (h.ea i hi).op
    exact ⟨this.2.1, this.2.2.1⟩
theorem La.bn (h : La w0 wr M L S bb hb qb n x0 f n tv ts) (h1 : 1 ≤ n) (h4 : n ≤ 4) (s1 : S.rc = 0) (s2 : S.n = 1) (s3 : S.use 0 = true) (s4 : S.wd = 2) (s5 : S.g0 = 0) (s6 : S.word 0 = 7) (s7 : S.word 1 = x0) : Bn wr (adOf wr.heap.size L hb qb n f) x0 (fun _ => false) := by
  have hr : Hr wr hb qb n (fun i => (f i).pb) (fun i => if (fun _ => false) i = true then 0 else 1) (fun i => (f i).cp) 0 (.slice none 0 0) (.slice none 0 0) :=
    ⟨(cell?_heap h.ha 0).trans rfl, (cell?_heap h.ha 1).trans rfl, (cell?_heap h.ha 2).trans rfl, (cell?_heap h.ha 3).trans rfl, fun i hi => h.qd i hi, fun j => frozen?_heap h.ha j, h.qf, (Array.getElem?_eq_some_iff.1 h.ha).1, Nat.lt_of_lt_of_le h.qm.2 h.ms, h.d4⟩
  refine ⟨S, fun _ _ => 0, 0, .slice none 0 0, .slice none 0 0, [], [], ⟨h.hd, hr, fun i hi => ?_, fun i hi => ?_, fun i hi _ => ?_, fun i hi _ j => ?_, OwG.nil _ _ _ _ _, OwG.nil _ _ _ _ _, Nat.le_refl _, s1, s2, s3, s4, s5, rfl, ?_⟩, s6, .inl ⟨fun _ _ => rfl, s7, fun _ _ => rfl⟩⟩
  · have e := (h.ea i hi).th
    have c : ∀ j, wr.cell? ⟨(f i).T, j, none⟩ = (thA L (.slice (some ⟨(f i).ib, 0, none⟩) 1 (f i).cap))[j]? := fun j => cell?_heap e j
    exact ⟨(c 0).trans rfl, (c 1).trans rfl, (c 2).trans rfl, fun j hj => (c (3 + j)).trans (by
      have : j = 0 ∨ j = 1 ∨ j = 2 ∨ j = 3 := by omega
      rcases this with rfl | rfl | rfl | rfl <;> rfl), (c 7).trans rfl, fun j => frozen?_heap e j, (Array.getElem?_eq_some_iff.1 e).1⟩
  · have e := (h.ea i hi).oi
    have := In8.of (w := wr) (ib := (f i).ib) (k := 0) (x := sw x0 i) (fun j hj => by
      rw [Nat.zero_mul, Nat.zero_add, World.ownsRow.cellAt e j (by omega)]
      simp) (Array.getElem?_eq_some_iff.1 (owG_cap e).2.2.2.2.choose_spec).1
    exact this
  · have e := (h.ea i hi).op
    exact ⟨(World.ownsRow.cellAt e 0 (by decide)).trans rfl, (World.ownsRow.cellAt e 1 (by decide)).trans rfl, (World.ownsRow.cellAt e 2 (by decide)).trans rfl⟩
  · exact World.ownsRow.frozenAt (h.ea i hi).op j
  · show 0 + left (fun _ => false) n = n
    have : ∀ n, left (fun _ => false) n = n := fun n => by
      induction n with
      | zero => rfl
      | succ n ih => rw [left_succ, ih]; rfl
    rw [this]; omega
end Go.Proofs.YtegnmflbbpfdhaaGreat
