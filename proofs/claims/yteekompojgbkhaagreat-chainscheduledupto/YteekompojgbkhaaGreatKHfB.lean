import Derived.Test.YteekompojgbkhaaGreatKHfA
namespace Go.Proofs.YteekompojgbkhaaGreat
set_option linter.unusedSimpArgs false
open Go.ChangeShapes Go.WideShapes Go.ChangeAt Go.RowKit Go.MuLone Go.RwLone
set_option linter.unusedVariables false
set_option maxRecDepth 100000
set_option maxHeartbeats 3200000
/-- A harness, plain: its queues, its steps, its events, the machines that have ended. -/
structure Hp where
  q : List (List Pq)
  st : Int
  ev : List (Int × Int × Int × Int)
  en : List Nat
def wtp (x : Pq) : Nat := if x.2.2 then 1 else 2
def wtl (l : List Pq) : Nat := (l.map wtp).sum
def wtq (q : List (List Pq)) : Nat := (q.map wtl).sum
theorem neT {w : World} {a b : Nat} {c d : Array Value} {s t : TypeId} {f g : Nat × Nat} (h : w.heap[a]? = some (.cells c s f)) (h' : w.heap[b]? = some (.cells d t g)) (hn : s ≠ t) : a ≠ b := by
  rintro rfl
  rw [h] at h'
  injection h' with e
  injection e with _ e2
  exact hn e2
abbrev haC (qb n : Nat) (st : Int) (ev en : Value) : Array Value := #[.slice (some ⟨qb, 0, none⟩) n n, .int .i64 st, ev, en]
abbrev OwP (pt : Nat → Nat) (w : World) (v : Value) (xs : List Pq) : Prop := OwG (plM pt) 101 3 w 0 v xs
/-- A harness in its blocks, all of which F holds. -/
structure Hm (w : World) (F : Nat → Prop) (pt : Nat → Nat) (hb qb : Nat) (qv : Nat → Value) (ev en : Value) (h : Hp) : Prop where
  hc : w.heap[hb]? = some (.cells (haC qb h.q.length h.st ev en) 98)
  qt : ∃ c, w.heap[qb]? = some (.cells c 99)
  qc : ∀ i, i < h.q.length → w.cell? ⟨qb, i, none⟩ = some (qv i)
  ql : ∀ i (hi : i < h.q.length), OwP pt w (qv i) h.q[i]
  qa : ∀ i j g, i < h.q.length → j < h.q.length → i ≠ j → (qv i).ownBlock = some g → (qv j).ownBlock = some g → False
  oe : OwE w 0 ev h.ev
  ot : OwT w 0 en (h.en.map pt)
  fh : F hb
  fq : F qb
  fr : ∀ i g, i < h.q.length → (qv i).ownBlock = some g → F g
  fe : ∀ g, ev.ownBlock = some g → F g
  fn : ∀ g, en.ownBlock = some g → F g
  lt : ∀ x, F x → x < w.heap.size
  n16 : h.q.length ≤ 16
variable {w : World} {F : Nat → Prop} {pt : Nat → Nat} {hb qb : Nat} {qv : Nat → Value} {ev en : Value} {h : Hp}
theorem Hm.keeps {w' : World} {D : Nat → Prop} (m : Hm w F pt hb qb qv ev en h) (k : Keeps D w w') (hD : ∀ x, D x → ¬ F x) : Hm w' F pt hb qb qv ev en h := by
  have hq := m.lt _ m.fq
  refine ⟨(k.block _ (m.lt _ m.fh) (fun e => hD _ e m.fh)).trans m.hc, ?_, fun i hi => (k.cell (p := ⟨qb, i, none⟩) hq (fun e => hD _ e m.fq)).trans (m.qc i hi), fun i hi => owK (m.ql i hi) k (fun g hg e => hD _ e (m.fr i g hi hg)), m.qa, owK m.oe k (fun g hg e => hD _ e (m.fe g hg)), owK m.ot k (fun g hg e => hD _ e (m.fn g hg)), m.fh, m.fq, m.fr, m.fe, m.fn, fun x hx => Nat.lt_of_lt_of_le (m.lt x hx) k.size, m.n16⟩
  obtain ⟨c, hc⟩ := m.qt
  exact ⟨c, (k.block _ hq (fun e => hD _ e m.fq)).trans hc⟩
theorem Hm.still {w' : World} (m : Hm w F pt hb qb qv ev en h) (k : Keeps (fun _ => False) w w') : Hm w' F pt hb qb qv ev en h := m.keeps k (fun _ e => e.elim)
theorem Hm.hq (m : Hm w F pt hb qb qv ev en h) : hb ≠ qb := by
  obtain ⟨c, hc⟩ := m.qt
  exact neT m.hc hc (by decide)
theorem Hm.rows (m : Hm w F pt hb qb qv ev en h) (i : Nat) (hi : i < h.q.length) (g : Nat) (hg : (qv i).ownBlock = some g) : g ≠ hb ∧ g ≠ qb ∧ ev.ownBlock ≠ some g ∧ en.ownBlock ≠ some g := by
  obtain ⟨c, hc⟩ := blk (m.ql i hi) hg
  obtain ⟨d, hd⟩ := m.qt
  refine ⟨neT hc m.hc (by decide), neT hc hd (by decide), fun e => ?_, fun e => ?_⟩
  · obtain ⟨c', hc'⟩ := blk m.oe e
    exact neT hc hc' (by decide) rfl
  · obtain ⟨c', hc'⟩ := blk m.ot e
    exact neT hc hc' (by decide) rfl
theorem Hm.evs (m : Hm w F pt hb qb qv ev en h) (g : Nat) (hg : ev.ownBlock = some g) : g ≠ hb ∧ g ≠ qb ∧ en.ownBlock ≠ some g := by
  obtain ⟨c, hc⟩ := blk m.oe hg
  obtain ⟨d, hd⟩ := m.qt
  refine ⟨neT hc m.hc (by decide), neT hc hd (by decide), fun e => ?_⟩
  obtain ⟨c', hc'⟩ := blk m.ot e
  exact neT hc hc' (by decide) rfl
theorem Hm.ens (m : Hm w F pt hb qb qv ev en h) (g : Nat) (hg : en.ownBlock = some g) : g ≠ hb ∧ g ≠ qb := by
  obtain ⟨c, hc⟩ := blk m.ot hg
  obtain ⟨d, hd⟩ := m.qt
  exact ⟨neT hc m.hc (by decide), neT hc hd (by decide)⟩
theorem heapSet {w : World} {g j : Nat} {c : Array Value} {t : TypeId} (h : w.heap[g]? = some (.cells c t)) (v : Value) : (w.setCell ⟨g, j, none⟩ v).heap[g]? = some (.cells (c.setIfInBounds j v) t) := by
  simp [World.setCell, Array.getElem?_modify, h]
/-- The steps are stored. -/
theorem Hm.setSt (m : Hm w F pt hb qb qv ev en h) (x : Int) : Hm (w.setCell ⟨hb, 1, none⟩ (.int .i64 x)) F pt hb qb qv ev en { h with st := x } := by
  have k : Keeps (fun g => g = hb) w (w.setCell ⟨hb, 1, none⟩ (.int .i64 x)) := Keeps.setCell (B := fun g => g = hb) (Keeps.refl _ _) rfl _
  have hq := m.lt _ m.fq
  obtain ⟨c, hc⟩ := m.qt
  exact ⟨heapSet m.hc _, ⟨c, (k.block _ hq (fun e => m.hq e.symm)).trans hc⟩, fun i hi => (k.cell (p := ⟨qb, i, none⟩) hq (fun e => m.hq e.symm)).trans (m.qc i hi), fun i hi => owK (m.ql i hi) k (fun g hg e => (m.rows i hi g hg).1 e), m.qa, owK m.oe k (fun g hg e => (m.evs g hg).1 e), owK m.ot k (fun g hg e => (m.ens g hg).1 e), m.fh, m.fq, m.fr, m.fe, m.fn, fun x hx => by simpa using m.lt x hx, m.n16⟩
/-- An event more. -/
theorem Hm.event {w1 : World} {b mm cap : Nat} {es : List (Int × Int × Int × Int)} (m : Hm w F pt hb qb qv ev en h) (k : Keeps (fun g => ev.ownBlock = some g) w w1) (ho : OwE w1 0 (.slice (some ⟨b, 0, none⟩) mm cap) es) (hb' : ev.ownBlock = some b ∨ w.heap.size ≤ b) (hl : b < w1.heap.size) :
    Hm (w1.setCell ⟨hb, 2, none⟩ (.slice (some ⟨b, 0, none⟩) mm cap)) (fun x => F x ∨ x = b) pt hb qb qv (.slice (some ⟨b, 0, none⟩) mm cap) en { h with ev := es } := by
  have hq := m.lt _ m.fq
  have hh := m.lt _ m.fh
  obtain ⟨c, hc⟩ := m.qt
  have k2 : Keeps (fun g => g = hb) w1 (w1.setCell ⟨hb, 2, none⟩ (.slice (some ⟨b, 0, none⟩) mm cap)) := Keeps.setCell (B := fun g => g = hb) (Keeps.refl _ _) rfl _
  have kk : Keeps (fun g => ev.ownBlock = some g ∨ g = hb) w (w1.setCell ⟨hb, 2, none⟩ (.slice (some ⟨b, 0, none⟩) mm cap)) := (k.mono (fun _ e => .inl e)).trans (k2.mono (fun _ e => .inr e))
  have e1 : w1.heap[hb]? = _ := (k.block hb hh (fun e => (m.evs hb e).1 rfl)).trans m.hc
  have nb : b ≠ hb := by
    rcases hb' with e | e
    · exact (m.evs b e).1
    · omega
  refine ⟨heapSet e1 _, ⟨c, (kk.block _ hq (fun e => e.elim (fun e => (m.evs qb e).2.1 rfl) (fun e => m.hq e.symm))).trans hc⟩, fun i hi => (kk.cell (p := ⟨qb, i, none⟩) hq (fun e => e.elim (fun e => (m.evs qb e).2.1 rfl) (fun e => m.hq e.symm))).trans (m.qc i hi), fun i hi => owK (m.ql i hi) kk (fun g hg e => e.elim (fun e => (m.rows i hi g hg).2.2.1 e) (fun e => (m.rows i hi g hg).1 e)), m.qa, owK ho k2 (fun g hg e => nb ((Option.some.inj hg : b = g).trans e)), owK m.ot kk (fun g hg e => e.elim (fun e => (m.evs g e).2.2 hg) (fun e => (m.ens g hg).1 e)), .inl m.fh, .inl m.fq, fun i g hi hg => .inl (m.fr i g hi hg), fun g hg => .inr (Option.some.inj hg : b = g).symm, fun g hg => .inl (m.fn g hg), fun x hx => ?_, m.n16⟩
  rcases hx with hx | hx
  · have := m.lt x hx
    have := kk.size
    omega
  · rw [hx]; simpa using hl
/-- A machine more that has ended. -/
theorem Hm.ended {w1 : World} {b mm cap : Nat} {es : List Nat} (m : Hm w F pt hb qb qv ev en h) (k : Keeps (fun g => en.ownBlock = some g) w w1) (ho : OwT w1 0 (.slice (some ⟨b, 0, none⟩) mm cap) (es.map pt)) (hb' : en.ownBlock = some b ∨ w.heap.size ≤ b) (hl : b < w1.heap.size) :
    Hm (w1.setCell ⟨hb, 3, none⟩ (.slice (some ⟨b, 0, none⟩) mm cap)) (fun x => F x ∨ x = b) pt hb qb qv ev (.slice (some ⟨b, 0, none⟩) mm cap) { h with en := es } := by
  have hq := m.lt _ m.fq
  have hh := m.lt _ m.fh
  obtain ⟨c, hc⟩ := m.qt
  have k2 : Keeps (fun g => g = hb) w1 (w1.setCell ⟨hb, 3, none⟩ (.slice (some ⟨b, 0, none⟩) mm cap)) := Keeps.setCell (B := fun g => g = hb) (Keeps.refl _ _) rfl _
  have kk : Keeps (fun g => en.ownBlock = some g ∨ g = hb) w (w1.setCell ⟨hb, 3, none⟩ (.slice (some ⟨b, 0, none⟩) mm cap)) := (k.mono (fun _ e => .inl e)).trans (k2.mono (fun _ e => .inr e))
  have e1 : w1.heap[hb]? = _ := (k.block hb hh (fun e => (m.ens hb e).1 rfl)).trans m.hc
  have nb : b ≠ hb := by
    rcases hb' with e | e
    · exact (m.ens b e).1
    · omega
  refine ⟨heapSet e1 _, ⟨c, (kk.block _ hq (fun e => e.elim (fun e => (m.ens qb e).2 rfl) (fun e => m.hq e.symm))).trans hc⟩, fun i hi => (kk.cell (p := ⟨qb, i, none⟩) hq (fun e => e.elim (fun e => (m.ens qb e).2 rfl) (fun e => m.hq e.symm))).trans (m.qc i hi), fun i hi => owK (m.ql i hi) kk (fun g hg e => e.elim (fun e => (m.rows i hi g hg).2.2.2 e) (fun e => (m.rows i hi g hg).1 e)), m.qa, owK m.oe kk (fun g hg e => e.elim (fun e => (m.evs g hg).2.2 e) (fun e => (m.evs g hg).1 e)), owK ho k2 (fun g hg e => nb ((Option.some.inj hg : b = g).trans e)), .inl m.fh, .inl m.fq, fun i g hi hg => .inl (m.fr i g hi hg), fun g hg => .inl (m.fe g hg), fun g hg => .inr (Option.some.inj hg : b = g).symm, fun x hx => ?_, m.n16⟩
  rcases hx with hx | hx
  · have := m.lt x hx
    have := kk.size
    omega
  · rw [hx]; simpa using hl
/-- A row is changed in its own block. -/
theorem Hm.row {w1 : World} {P i : Nat} {l : List Pq} {v : Value} (m : Hm w F pt hb qb qv ev en h) (hi : i < h.q.length) (hP : (qv i).ownBlock = some P) (k : Keeps (fun g => g = P) w w1) (ho : OwP pt w1 v l) (hv : v.ownBlock = some P) :
    Hm (w1.setCell ⟨qb, i, none⟩ v) F pt hb qb (upd qv i v) ev en { h with q := h.q.set i l } := by
  have hq := m.lt _ m.fq
  have hh := m.lt _ m.fh
  have r := m.rows i hi P hP
  obtain ⟨c, hc⟩ := m.qt
  have k2 : Keeps (fun g => g = qb) w1 (w1.setCell ⟨qb, i, none⟩ v) := Keeps.setCell (B := fun g => g = qb) (Keeps.refl _ _) rfl _
  have kk : Keeps (fun g => g = P ∨ g = qb) w (w1.setCell ⟨qb, i, none⟩ v) := (k.mono (fun _ e => .inl e)).trans (k2.mono (fun _ e => .inr e))
  have e1 : w1.heap[qb]? = _ := (k.block qb hq (fun e => r.2.1 e.symm)).trans hc
  have ec : ∀ j, w1.cell? ⟨qb, j, none⟩ = w.cell? ⟨qb, j, none⟩ := fun j => k.cell (p := ⟨qb, j, none⟩) hq (fun e => r.2.1 e.symm)
  have ew : ∀ j, j < h.q.length → ((upd qv i v) j).ownBlock = (qv j).ownBlock := fun j hj => by
    by_cases e : j = i
    · subst e; rw [upd_same, hv, hP]
    · rw [upd_other _ _ e]
  refine ⟨?_, ⟨_, heapSet e1 _⟩, fun j hj => ?_, fun j hj => ?_, fun j j' g hj hj' hn h1 h2 => ?_, owK m.oe kk (fun g hg e => e.elim (fun e => r.2.2.1 (e ▸ hg)) (fun e => (m.evs g hg).2.1 e)), owK m.ot kk (fun g hg e => e.elim (fun e => r.2.2.2 (e ▸ hg)) (fun e => (m.ens g hg).2 e)), m.fh, m.fq, fun j g hj hg => ?_, m.fe, m.fn, fun x hx => Nat.lt_of_lt_of_le (m.lt x hx) kk.size, by simpa using m.n16⟩
  · rw [List.length_set]
    exact (kk.block hb hh (fun e => e.elim (fun e => r.1 e.symm) (fun e => m.hq e))).trans m.hc
  · rw [List.length_set] at hj
    by_cases e : j = i
    · subst e; rw [upd_same]
      exact World.cell?_setCell_same _ _ _ ((ec j).trans (m.qc j hj))
    · rw [upd_other _ _ e, World.cell?_setCell_other _ _ _ _ (fun e' => e (congrArg Addr.off e').symm), ec]
      exact m.qc j hj
  · have hj2 : j < h.q.length := by simpa using hj
    by_cases e : j = i
    · subst e
      rw [upd_same]
      simp only [List.getElem_set_self]
      exact owK ho k2 (fun g hg e => r.2.1 ((Option.some.inj (hv.symm.trans hg) : P = g).trans e))
    · rw [upd_other _ _ e]
      simp only [List.getElem_set_ne (fun e' => e e'.symm)]
      exact owK (m.ql j hj2) kk (fun g hg e' => e'.elim (fun e' => m.qa j i g hj2 hi e hg (e' ▸ hP)) (fun e' => (m.rows j hj2 g hg).2.1 e'))
  · rw [List.length_set] at hj hj'
    rw [ew j hj] at h1
    rw [ew j' hj'] at h2
    exact m.qa j j' g hj hj' hn h1 h2
  · rw [List.length_set] at hj
    rw [ew j hj] at hg
    exact m.fr j g hj hg
end Go.Proofs.YteekompojgbkhaaGreat

namespace Go.Proofs.YteekompojgbkhaaGreat
set_option linter.unusedSimpArgs false
open Go.ChangeShapes Go.WideShapes Go.ChangeAt Go.RowKit Go.MuLone Go.RwLone
set_option linter.unusedVariables false
set_option maxRecDepth 100000
set_option maxHeartbeats 3200000
theorem Hm.head {w : World} {F : Nat → Prop} {pt : Nat → Nat} {hb qb : Nat} {qv : Nat → Value} {ev en : Value} {h : Hp} (m : Hm w F pt hb qb qv ev en h) {i : Nat} (hi : i < h.q.length) {x : Pq} {l : List Pq} (hq : h.q[i] = x :: l) :
    ∃ P cap, qv i = .slice (some ⟨P, 0, none⟩) (x :: l).length cap ∧ (qv i).ownBlock = some P ∧ OwP pt w (.slice (some ⟨P, 0, none⟩) (x :: l).length cap) (x :: l) ∧ w.cell? ⟨P, 0, none⟩ = some (.pointer (some ⟨pt x.1, 0, none⟩)) ∧ w.cell? ⟨P, 1, none⟩ = some (.int .i64 x.2.1) ∧ w.cell? ⟨P, 2, none⟩ = some (.bool x.2.2) ∧ w.frozen? ⟨P, 2, none⟩ = false := by
  have o := m.ql i hi
  rw [hq] at o
  obtain ⟨P, cap, e, _, _⟩ := owG_some o (by simp)
  rw [e] at o
  exact ⟨P, cap, e, by rw [e]; rfl, o, (World.ownsRow.cellAt o 0 (by simp only [List.length_cons]; omega)).trans rfl, (World.ownsRow.cellAt o 1 (by simp only [List.length_cons]; omega)).trans rfl, (World.ownsRow.cellAt o 2 (by simp only [List.length_cons]; omega)).trans rfl, World.ownsRow.frozenAt o 2⟩
theorem hpend_in {w : World} {F : Nat → Prop} {pt : Nat → Nat} {hb qb : Nat} {qv : Nat → Value} {ev en : Value} {h : Hp} (m : Hm w F pt hb qb qv ev en h) (i : Nat) (hi : i < h.q.length) : Calls Tryz.prog 137 #[.pointer (some ⟨hb, 0, none⟩), .int .i64 (i : Int)] w fun e w' => e = .returned (.int .i64 ((h.q[i].length : Nat) : Int)) ∧ w' = w := by
  have hq : w.cell? ⟨hb, 0, none⟩ = some (.slice (some ⟨qb, 0, none⟩) h.q.length h.q.length) := (cell?_heap m.hc 0).trans rfl
  obtain ⟨a, cap, e⟩ := (m.ql i hi).form
  have hr := m.qc i hi
  rw [e] at hr
  have h0 : (0 : Int) ≤ (i : Int) := Int.natCast_nonneg _
  have h1 : (i : Int) < (h.q.length : Int) := by omega
  have hd : decide (0 ≤ (i : Int) ∧ (i : Int) < (h.q.length : Int)) = true := by simp [h0, h1]
  clear m e
  generalize h.q[i].length = ln at *
  generalize h.q.length = n at *
  go_enter Tryz.func137, Tryz.ntmps137
  go_wp2_with fail
  refine (hhas_any w hb n _ _ i hq).mono ?_
  rintro e w' ⟨rfl, rfl⟩
  rw [hd]
  clear hd
  go_wp2
  go_ret
  exact ⟨rfl, rfl⟩
theorem hpend_out {w : World} {F : Nat → Prop} {pt : Nat → Nat} {hb qb : Nat} {qv : Nat → Value} {ev en : Value} {h : Hp} (m : Hm w F pt hb qb qv ev en h) (x : Int) (hx : ¬ (0 ≤ x ∧ x < (h.q.length : Int))) : Calls Tryz.prog 137 #[.pointer (some ⟨hb, 0, none⟩), .int .i64 x] w fun e w' => e = .returned (.int .i64 0) ∧ w' = w := by
  have hq : w.cell? ⟨hb, 0, none⟩ = some (.slice (some ⟨qb, 0, none⟩) h.q.length h.q.length) := (cell?_heap m.hc 0).trans rfl
  have hd : decide (0 ≤ x ∧ x < (h.q.length : Int)) = false := decide_eq_false hx
  clear m hx
  go_enter Tryz.func137, Tryz.ntmps137
  go_wp2_with fail
  refine (hhas_any w hb _ _ _ x hq).mono ?_
  rintro e w' ⟨rfl, rfl⟩
  rw [hd]
  clear hd
  go_wp2
  go_ret
  exact ⟨rfl, rfl⟩
theorem hrec_any (w : World) (F : Nat → Prop) (pt : Nat → Nat) (hb qb : Nat) (qv : Nat → Value) (ev en : Value) (h : Hp) (i : Nat) (k : Int) (x : Pq) (l : List Pq) (hi : i < h.q.length) (m : Hm w F pt hb qb qv ev en h) (hq : h.q[i] = x :: l) (hlen : h.ev.length ≤ 68719476736) :
    Calls Tryz.prog 182 #[.pointer (some ⟨hb, 0, none⟩), .int .i64 k, .int .i64 (i : Int)] w fun e w' => e = .returned (.tuple #[]) ∧ ∃ F' v, Hm w' F' pt hb qb qv v en { h with ev := h.ev ++ [(k, (i : Int), x.2.1, h.st)] } ∧ Keeps F w w' ∧ ∀ y, F' y → F y ∨ w.heap.size ≤ y := by
  obtain ⟨q, st, es, nn⟩ := h
  obtain ⟨mx, tg, cl⟩ := x
  dsimp only at hi hq hlen ⊢
  obtain ⟨P, cap, eqv, oP, -, -, hp, -, -⟩ := m.head hi hq
  have cr := m.qc i hi
  rw [eqv] at cr
  have H : Hid (Hm w F pt hb qb qv ev en ⟨q, st, es, nn⟩) := m
  have h0 : (0 : Int) ≤ (i : Int) := Int.natCast_nonneg _
  have h1 : (i : Int) < (q.length : Int) := by omega
  obtain ⟨ea, ec, hev⟩ := m.oe.form
  have lP := m.lt _ (m.fr i P hi oP)
  have lh := m.lt _ m.fh
  have lq := m.lt _ m.fq
  have hl1 : ((mx, tg, cl) :: l).length = l.length + 1 := rfl
  rw [hl1] at cr
  have l1 : (0 : Int) < ((l.length + 1 : Nat) : Int) := by omega
  have cE : w.drew.cell? ⟨hb, 2, none⟩ = some (.slice ea es.length ec) := by rw [← hev]; exact (cell?_heap m.hc 2).trans rfl
  have HS : Hid (w.drew.cell? ⟨hb, 0, none⟩ = some (.slice (some ⟨qb, 0, none⟩) q.length q.length) ∧ w.drew.cell? ⟨hb, 1, none⟩ = some (.int .i64 st) ∧ w.drew.cell? ⟨qb, i, none⟩ = some (.slice (some ⟨P, 0, none⟩) (l.length + 1) cap) ∧ w.drew.cell? ⟨P, 1, none⟩ = some (.int .i64 tg)) := ⟨(cell?_heap m.hc 0).trans rfl, (cell?_heap m.hc 1).trans rfl, cr, hp⟩
  have HA : Hid (∀ o : Obj, (w.drew.alloc o).cell? ⟨hb, 0, none⟩ = some (.slice (some ⟨qb, 0, none⟩) q.length q.length) ∧ (w.drew.alloc o).cell? ⟨hb, 1, none⟩ = some (.int .i64 st) ∧ (w.drew.alloc o).cell? ⟨qb, i, none⟩ = some (.slice (some ⟨P, 0, none⟩) (l.length + 1) cap) ∧ (w.drew.alloc o).cell? ⟨P, 1, none⟩ = some (.int .i64 tg)) := fun o =>
    have e : ∀ g j, g < w.heap.size → (w.drew.alloc o).cell? ⟨g, j, none⟩ = w.cell? ⟨g, j, none⟩ := fun g j hg => World.cell?_of_block (w := w) (Below.heap_alloc w.drew o g hg)
    ⟨(e _ _ lh).trans HS.out.1, (e _ _ lh).trans HS.out.2.1, (e _ _ lq).trans cr, (e _ _ lP).trans hp⟩
  have cE2 : (w.alloc (.cells #[.int .i64 k, .int .i64 (i : Int), .int .i64 tg, .int .i64 st] 70)).cell? ⟨hb, 2, none⟩ = some (.slice ea es.length ec) := (World.cell?_of_block (w := w) (Below.heap_alloc w _ hb lh)).trans cE
  have HO : Hid (OwE w.drew 0 (.slice ea es.length ec) es) := by rw [← hev]; exact m.oe.later (Below.refl _ _).drew
  have HV : Hid (ev = .slice ea es.length ec) := hev
  have HP : Hid ((qv i).ownBlock = some P ∧ P < w.heap.size) := ⟨oP, lP⟩
  clear m hp cr oP eqv hev hq hl1
  go_enter Tryz.func182, Tryz.ntmps182
  go_wp2_with fail
  (refine wp_region_held_drew (S := (fun W => W.cell? ⟨hb, 0, none⟩ = some (.slice (some ⟨qb, 0, none⟩) q.length q.length) ∧ W.cell? ⟨hb, 1, none⟩ = some (.int .i64 st) ∧ W.cell? ⟨qb, i, none⟩ = some (.slice (some ⟨P, 0, none⟩) (l.length + 1) cap) ∧ W.cell? ⟨P, 1, none⟩ = some (.int .i64 tg))) (by kernel_rfl) HS.out (fun hHeld => ?_); simp only [List.size_toArray, List.length_cons, List.length_nil, Nat.reduceAdd, Array.replicate_succ, Array.replicate_zero, List.push_toArray, List.append_toArray, List.nil_append, List.cons_append])
  refine rgT 0 (h := ?_)
  refine rgT 1 (h := ?_)
  refine rgT 2 (h := ?_)
  refine rgT 3 (h := ?_)
  refine rgT 5 (h := ?_)
  refine rgT 6 (h := ?_)
  refine rgT 7 (h := ?_)
  refine rgT 8 (h := ?_)
  refine rgT 9 (h := ?_)
  refine rgT 10 (h := ?_)
  refine rgT 11 (h := ?_)
  refine rgT 12 (h := ?_)
  refine rgT 13 (h := ?_)
  refine rgT 14 (h := ?_)
  refine rgT 15 (h := ?_)
  refine rgT 16 (h := ?_)
  refine rgT 17 (h := ?_)
  refine rgT 18 (h := ?_)
  refine rgT 19 (h := ?_)
  refine rgT 20 (h := ?_)
  refine rgT 21 (h := ?_)
  (refine wpAnyH_ready (rs := [4, 22]) (by kernel_rfl) (by simp) ?_; refine rgA 4 (by rfl) (fun K hK => ?_) (rgA 22 (by rfl) (fun K hK => ?_) AllReadyH.nil) <;> go_simp)
  (refine hK.out _ _ HS.out (fun hHeld => ?_); clear hK K; try simp only [Act.put, List.setIfInBounds_toArray, List.set_cons_zero, List.set_cons_succ])
  (refine rgS 22 (h := fun K hK => ?_); go_simp)
  (refine hK.out _ _ (HA.out _) (fun hHeld => ?_); clear hK K; try simp only [Act.put, List.setIfInBounds_toArray, List.set_cons_zero, List.set_cons_succ])
  rotate_left 1
  (refine hK.out _ _ (HA.out _) (fun hHeld => ?_); clear hK K; try simp only [Act.put, List.setIfInBounds_toArray, List.set_cons_zero, List.set_cons_succ])
  (refine rgS 4 (h := fun K hK => ?_); go_simp)
  (refine hK.out _ _ (HA.out _) (fun hHeld => ?_); clear hK K; try simp only [Act.put, List.setIfInBounds_toArray, List.set_cons_zero, List.set_cons_succ])
  all_goals
    clear cE cE2
    (refine rgS 23 (h := fun K hK => ?_); rw [if_pos (by rfl)])
    refine app_lies_wp (cs := evC) (wr := w.drew) (.tmp 10) (.tmp 28) 67 70 (by rfl) Tryz.underlying67 infoEv rfl (by decide) (fun _ => rfl) _ es (k, (i : Int), tg, st) HO.out (by rfl) w.heap.size rfl (by rfl) (by intro u hu; simp [evC] at hu; rcases hu with rfl | rfl | rfl | rfl <;> rfl) _ rfl (by unfold maxLen; omega) (by omega) ?_
    intro b c5 w5 ho k5 hb5 hl5
    have k5' : Keeps (fun g => ev.ownBlock = some g) w w5 := by rw [HV.out]; exact (Keeps.refl _ _).drew.trans k5
    have hb5' : ev.ownBlock = some b ∨ w.heap.size ≤ b := by rw [HV.out]; exact hb5
    have H6 := H.out.event k5' ho hb5' hl5
    have ce : ∀ g j, g < w.heap.size → ev.ownBlock ≠ some g → w5.cell? ⟨g, j, none⟩ = w.cell? ⟨g, j, none⟩ := fun g j hg hn => k5'.cell (p := ⟨g, j, none⟩) hg hn
    have nh : ev.ownBlock ≠ some hb := fun e => (H.out.evs hb e).1 rfl
    have nq : ev.ownBlock ≠ some qb := fun e => (H.out.evs qb e).2.1 rfl
    have nP : ev.ownBlock ≠ some P := fun e => (H.out.rows i (by omega) P HP.out.1).2.2.1 e
    have HB : Hid (w5.cell? ⟨hb, 0, none⟩ = some (.slice (some ⟨qb, 0, none⟩) q.length q.length) ∧ w5.cell? ⟨hb, 1, none⟩ = some (.int .i64 st) ∧ w5.cell? ⟨qb, i, none⟩ = some (.slice (some ⟨P, 0, none⟩) (l.length + 1) cap) ∧ w5.cell? ⟨P, 1, none⟩ = some (.int .i64 tg)) := ⟨(ce _ _ lh nh).trans HS.out.1, (ce _ _ lh nh).trans HS.out.2.1, (ce _ _ lq nq).trans HS.out.2.2.1, (ce _ _ lP nP).trans HS.out.2.2.2⟩
    have cE5 : w5.cell? ⟨hb, 2, none⟩ = some ev := (ce _ _ lh nh).trans ((cell?_heap H.out.hc 2).trans rfl)
    have fE5 : w5.frozen? ⟨hb, 2, none⟩ = false := (k5'.frozen (p := ⟨hb, 2, none⟩) lh nh).trans (frozen?_heap H.out.hc 2)
    have HC : Hid ((w5.setCell ⟨hb, 2, none⟩ (.slice (some ⟨b, 0, none⟩) (es.length + 1) c5)).cell? ⟨hb, 0, none⟩ = some (.slice (some ⟨qb, 0, none⟩) q.length q.length) ∧ (w5.setCell ⟨hb, 2, none⟩ (.slice (some ⟨b, 0, none⟩) (es.length + 1) c5)).cell? ⟨hb, 1, none⟩ = some (.int .i64 st) ∧ (w5.setCell ⟨hb, 2, none⟩ (.slice (some ⟨b, 0, none⟩) (es.length + 1) c5)).cell? ⟨qb, i, none⟩ = some (.slice (some ⟨P, 0, none⟩) (l.length + 1) cap) ∧ (w5.setCell ⟨hb, 2, none⟩ (.slice (some ⟨b, 0, none⟩) (es.length + 1) c5)).cell? ⟨P, 1, none⟩ = some (.int .i64 tg)) :=
      have e2 : ∀ g j, (g ≠ hb ∨ j ≠ 2) → (w5.setCell ⟨hb, 2, none⟩ (.slice (some ⟨b, 0, none⟩) (es.length + 1) c5)).cell? ⟨g, j, none⟩ = w5.cell? ⟨g, j, none⟩ := fun g j hn => World.cell?_setCell_other _ _ _ _ (fun e => hn.elim (fun hn => hn (congrArg Addr.block e).symm) (fun hn => hn (congrArg Addr.off e).symm))
      ⟨(e2 _ _ (.inr (by decide))).trans HB.out.1, (e2 _ _ (.inr (by decide))).trans HB.out.2.1, (e2 _ _ (.inl (fun e => H.out.hq e.symm))).trans HB.out.2.2.1, (e2 _ _ (.inl (H.out.rows i (by omega) P HP.out.1).1)).trans HB.out.2.2.2⟩
    have HX : Hid (∃ F' v, Hm (w5.setCell ⟨hb, 2, none⟩ (.slice (some ⟨b, 0, none⟩) (es.length + 1) c5)) F' pt hb qb qv v en { q := q, st := st, en := nn, ev := es ++ [(k, (i : Int), tg, st)] } ∧ Keeps F w (w5.setCell ⟨hb, 2, none⟩ (.slice (some ⟨b, 0, none⟩) (es.length + 1) c5)) ∧ ∀ y, F' y → F y ∨ w.heap.size ≤ y) := ⟨_, _, H6, (k5'.mono (fun g e => H.out.fe g e)).setCell (p := ⟨hb, 2, none⟩) H.out.fh _, fun y hy => hy.elim .inl (fun e => by rw [e]; exact hb5'.elim (fun e => .inl (H.out.fe b e)) .inr)⟩
    clear ho k5 k5' hb5 hb5' hl5 H6 ce nh nq nP HO HA
    (refine hK.out _ _ HB.out (fun hHeld => ?_); clear hK K; try simp only [Act.put, List.setIfInBounds_toArray, List.set_cons_zero, List.set_cons_succ])
    refine rgT 24 (h := ?_)
    refine rgT 25 (h := ?_)
    (refine rgS 26 (h := fun K hK => ?_); go_simp)
    (refine hK.out _ _ HC.out (fun hHeld => ?_); clear hK K; try simp only [Act.put, List.setIfInBounds_toArray, List.set_cons_zero, List.set_cons_succ])
    refine wpAnyH_done (by kernel_rfl) ?_ _
    refine ⟨rfl, .tuple #[], by simp [results, Tryz.results182], rfl, ?_⟩
    exact HX.out
end Go.Proofs.YteekompojgbkhaaGreat
