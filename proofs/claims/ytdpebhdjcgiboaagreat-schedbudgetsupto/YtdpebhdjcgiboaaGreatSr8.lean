import Derived.Test.YtdpebhdjcgiboaaGreatSr5
import Derived.Handy
import Derived.Deep.DeepCutAuto
namespace Go.Proofs.YtdpebhdjcgiboaaGreat
open Go.ChangeShapes Go.WideShapes Go.ChangeAt Go.RowKit Go.MuLone Go.RwLone
set_option linter.unusedVariables false
set_option maxRecDepth 100000
set_option maxHeartbeats 3200000
/-- A place of the document's queue. -/
def plR (x : Pq) : List Value := [.int .i64 (x.1 : Int), .int .i64 x.2.1, .bool x.2.2]
theorem plR_one (x : Pq) : ∀ u ∈ plR x, u.oneCell' = true := by
  intro u hu
  simp [plR] at hu
  rcases hu with rfl | rfl | rfl <;> rfl
def inR (x : Nat) : List Value := [.int .i64 (x : Int)]
abbrev haR (pt qb n : Nat) (st : Int) (ev en : Value) : Array Value := #[.pointer (some ⟨pt, 0, none⟩), .slice (some ⟨qb, 0, none⟩) n n, .int .i64 st, ev, en]
abbrev OwR (w : World) (v : Value) (xs : List Pq) : Prop := OwG plR 219 3 w 0 v xs
abbrev OwI (w : World) (B : Nat) (v : Value) (xs : List Nat) : Prop := OwG inR 3 1 w B v xs
/-- A harness in its blocks, all of which F holds. -/
structure Rh (w : World) (F : Nat → Prop) (pt : Nat) (hb qb : Nat) (qv : Nat → Value) (ev en : Value) (h : Hp) : Prop where
  hc : w.heap[hb]? = some (.cells (haR pt qb h.q.length h.st ev en) 158)
  qt : ∃ c, w.heap[qb]? = some (.cells c 217)
  qc : ∀ i, i < h.q.length → w.cell? ⟨qb, i, none⟩ = some (qv i)
  ql : ∀ i (hi : i < h.q.length), OwR w (qv i) h.q[i]
  qa : ∀ i j g, i < h.q.length → j < h.q.length → i ≠ j → (qv i).ownBlock = some g → (qv j).ownBlock = some g → False
  oe : OwE w 0 ev h.ev
  ot : OwI w 0 en h.en
  fh : F hb
  fq : F qb
  fr : ∀ i g, i < h.q.length → (qv i).ownBlock = some g → F g
  fe : ∀ g, ev.ownBlock = some g → F g
  fn : ∀ g, en.ownBlock = some g → F g
  lt : ∀ x, F x → x < w.heap.size
  n16 : h.q.length ≤ 16
variable {w : World} {F : Nat → Prop} {pt : Nat} {hb qb : Nat} {qv : Nat → Value} {ev en : Value} {h : Hp}
theorem Rh.keeps {w' : World} {D : Nat → Prop} (m : Rh w F pt hb qb qv ev en h) (k : Keeps D w w') (hD : ∀ x, D x → ¬ F x) : Rh w' F pt hb qb qv ev en h := by
  have hq := m.lt _ m.fq
  refine ⟨(k.block _ (m.lt _ m.fh) (fun e => hD _ e m.fh)).trans m.hc, ?_, fun i hi => (k.cell (p := ⟨qb, i, none⟩) hq (fun e => hD _ e m.fq)).trans (m.qc i hi), fun i hi => owK (m.ql i hi) k (fun g hg e => hD _ e (m.fr i g hi hg)), m.qa, owK m.oe k (fun g hg e => hD _ e (m.fe g hg)), owK m.ot k (fun g hg e => hD _ e (m.fn g hg)), m.fh, m.fq, m.fr, m.fe, m.fn, fun x hx => Nat.lt_of_lt_of_le (m.lt x hx) k.size, m.n16⟩
  obtain ⟨c, hc⟩ := m.qt
  exact ⟨c, (k.block _ hq (fun e => hD _ e m.fq)).trans hc⟩
theorem Rh.still {w' : World} (m : Rh w F pt hb qb qv ev en h) (k : Keeps (fun _ => False) w w') : Rh w' F pt hb qb qv ev en h := m.keeps k (fun _ e => e.elim)
theorem Rh.hq (m : Rh w F pt hb qb qv ev en h) : hb ≠ qb := by
  obtain ⟨c, hc⟩ := m.qt
  exact neT m.hc hc (by decide)
theorem Rh.rows (m : Rh w F pt hb qb qv ev en h) (i : Nat) (hi : i < h.q.length) (g : Nat) (hg : (qv i).ownBlock = some g) : g ≠ hb ∧ g ≠ qb ∧ ev.ownBlock ≠ some g ∧ en.ownBlock ≠ some g := by
  obtain ⟨c, hc⟩ := blk (m.ql i hi) hg
  obtain ⟨d, hd⟩ := m.qt
  refine ⟨neT hc m.hc (by decide), neT hc hd (by decide), fun e => ?_, fun e => ?_⟩
  · obtain ⟨c', hc'⟩ := blk m.oe e
    exact neT hc hc' (by decide) rfl
  · obtain ⟨c', hc'⟩ := blk m.ot e
    exact neT hc hc' (by decide) rfl
theorem Rh.evs (m : Rh w F pt hb qb qv ev en h) (g : Nat) (hg : ev.ownBlock = some g) : g ≠ hb ∧ g ≠ qb ∧ en.ownBlock ≠ some g := by
  obtain ⟨c, hc⟩ := blk m.oe hg
  obtain ⟨d, hd⟩ := m.qt
  refine ⟨neT hc m.hc (by decide), neT hc hd (by decide), fun e => ?_⟩
  obtain ⟨c', hc'⟩ := blk m.ot e
  exact neT hc hc' (by decide) rfl
theorem Rh.ens (m : Rh w F pt hb qb qv ev en h) (g : Nat) (hg : en.ownBlock = some g) : g ≠ hb ∧ g ≠ qb := by
  obtain ⟨c, hc⟩ := blk m.ot hg
  obtain ⟨d, hd⟩ := m.qt
  exact ⟨neT hc m.hc (by decide), neT hc hd (by decide)⟩
/-- The steps are stored. -/
theorem Rh.setSt (m : Rh w F pt hb qb qv ev en h) (x : Int) : Rh (w.setCell ⟨hb, 2, none⟩ (.int .i64 x)) F pt hb qb qv ev en { h with st := x } := by
  have k : Keeps (fun g => g = hb) w (w.setCell ⟨hb, 2, none⟩ (.int .i64 x)) := Keeps.setCell (B := fun g => g = hb) (Keeps.refl _ _) rfl _
  have hq := m.lt _ m.fq
  obtain ⟨c, hc⟩ := m.qt
  exact ⟨heapSet m.hc _, ⟨c, (k.block _ hq (fun e => m.hq e.symm)).trans hc⟩, fun i hi => (k.cell (p := ⟨qb, i, none⟩) hq (fun e => m.hq e.symm)).trans (m.qc i hi), fun i hi => owK (m.ql i hi) k (fun g hg e => (m.rows i hi g hg).1 e), m.qa, owK m.oe k (fun g hg e => (m.evs g hg).1 e), owK m.ot k (fun g hg e => (m.ens g hg).1 e), m.fh, m.fq, m.fr, m.fe, m.fn, fun x hx => by simpa using m.lt x hx, m.n16⟩
/-- An event more. -/
theorem Rh.event {w1 : World} {b mm cap : Nat} {es : List (Int × Int × Int × Int)} (m : Rh w F pt hb qb qv ev en h) (k : Keeps (fun g => ev.ownBlock = some g) w w1) (ho : OwE w1 0 (.slice (some ⟨b, 0, none⟩) mm cap) es) (hb' : ev.ownBlock = some b ∨ w.heap.size ≤ b) (hl : b < w1.heap.size) :
    Rh (w1.setCell ⟨hb, 3, none⟩ (.slice (some ⟨b, 0, none⟩) mm cap)) (fun x => F x ∨ x = b) pt hb qb qv (.slice (some ⟨b, 0, none⟩) mm cap) en { h with ev := es } := by
  have hq := m.lt _ m.fq
  have hh := m.lt _ m.fh
  obtain ⟨c, hc⟩ := m.qt
  have k2 : Keeps (fun g => g = hb) w1 (w1.setCell ⟨hb, 3, none⟩ (.slice (some ⟨b, 0, none⟩) mm cap)) := Keeps.setCell (B := fun g => g = hb) (Keeps.refl _ _) rfl _
  have kk : Keeps (fun g => ev.ownBlock = some g ∨ g = hb) w (w1.setCell ⟨hb, 3, none⟩ (.slice (some ⟨b, 0, none⟩) mm cap)) := (k.mono (fun _ e => .inl e)).trans (k2.mono (fun _ e => .inr e))
  have e1 : w1.heap[hb]? = _ := (k.block hb hh (fun e => (m.evs hb e).1 rfl)).trans m.hc
  have nb : b ≠ hb := by
    rcases hb' with e | e
    · exact (m.evs b e).1
    · omega
  refine ⟨heapSet e1 _, ⟨c, (kk.block _ hq (fun e => e.elim (fun e => (m.evs qb e).2.1 rfl) (fun e => m.hq e.symm))).trans hc⟩, fun i hi => (kk.cell (p := ⟨qb, i, none⟩) hq (fun e => e.elim (fun e => (m.evs qb e).2.1 rfl) (fun e => m.hq e.symm))).trans (m.qc i hi), fun i hi => owK (m.ql i hi) kk (fun g hg e => e.elim (fun e => (m.rows i hi g hg).2.2.1 e) (fun e => (m.rows i hi g hg).1 e)), m.qa, owK ho k2 (fun g hg e => nb ((Option.some.inj hg : b = g).trans e)), owK m.ot kk (fun g hg e => e.elim (fun e => (m.evs g e).2.2 hg) (fun e => (m.ens g hg).1 e)), .inl m.fh, .inl m.fq, fun i g hi hg => .inl (m.fr i g hi hg), fun g hg => .inr (Option.some.inj hg : b = g).symm, fun g hg => .inl (m.fn g hg), fun x hx => ?_, m.n16⟩
  rcases hx with hx | hx
  · have := m.lt x hx
    have := kk.size
    omega
  · rw [hx]; simpa using hl
/-- A machine more that has ended. -/
theorem Rh.ended {w1 : World} {b mm cap : Nat} {es : List Nat} (m : Rh w F pt hb qb qv ev en h) (k : Keeps (fun g => en.ownBlock = some g) w w1) (ho : OwI w1 0 (.slice (some ⟨b, 0, none⟩) mm cap) es) (hb' : en.ownBlock = some b ∨ w.heap.size ≤ b) (hl : b < w1.heap.size) :
    Rh (w1.setCell ⟨hb, 4, none⟩ (.slice (some ⟨b, 0, none⟩) mm cap)) (fun x => F x ∨ x = b) pt hb qb qv ev (.slice (some ⟨b, 0, none⟩) mm cap) { h with en := es } := by
  have hq := m.lt _ m.fq
  have hh := m.lt _ m.fh
  obtain ⟨c, hc⟩ := m.qt
  have k2 : Keeps (fun g => g = hb) w1 (w1.setCell ⟨hb, 4, none⟩ (.slice (some ⟨b, 0, none⟩) mm cap)) := Keeps.setCell (B := fun g => g = hb) (Keeps.refl _ _) rfl _
  have kk : Keeps (fun g => en.ownBlock = some g ∨ g = hb) w (w1.setCell ⟨hb, 4, none⟩ (.slice (some ⟨b, 0, none⟩) mm cap)) := (k.mono (fun _ e => .inl e)).trans (k2.mono (fun _ e => .inr e))
  have e1 : w1.heap[hb]? = _ := (k.block hb hh (fun e => (m.ens hb e).1 rfl)).trans m.hc
  have nb : b ≠ hb := by
    rcases hb' with e | e
    · exact (m.ens b e).1
    · omega
  refine ⟨heapSet e1 _, ⟨c, (kk.block _ hq (fun e => e.elim (fun e => (m.ens qb e).2 rfl) (fun e => m.hq e.symm))).trans hc⟩, fun i hi => (kk.cell (p := ⟨qb, i, none⟩) hq (fun e => e.elim (fun e => (m.ens qb e).2 rfl) (fun e => m.hq e.symm))).trans (m.qc i hi), fun i hi => owK (m.ql i hi) kk (fun g hg e => e.elim (fun e => (m.rows i hi g hg).2.2.2 e) (fun e => (m.rows i hi g hg).1 e)), m.qa, owK m.oe kk (fun g hg e => e.elim (fun e => (m.evs g hg).2.2 e) (fun e => (m.evs g hg).1 e)), owK ho k2 (fun g hg e => nb ((Option.some.inj hg : b = g).trans e)), .inl m.fh, .inl m.fq, fun i g hi hg => .inl (m.fr i g hi hg), fun g hg => .inl (m.fe g hg), fun g hg => .inr (Option.some.inj hg : b = g).symm, fun x hx => ?_, m.n16⟩
  rcases hx with hx | hx
  · have := m.lt x hx
    have := kk.size
    omega
  · rw [hx]; simpa using hl
/-- A row is changed in its own block. -/
theorem Rh.row {w1 : World} {P i : Nat} {l : List Pq} {v : Value} (m : Rh w F pt hb qb qv ev en h) (hi : i < h.q.length) (hP : (qv i).ownBlock = some P) (k : Keeps (fun g => g = P) w w1) (ho : OwR w1 v l) (hv : v.ownBlock = some P) :
    Rh (w1.setCell ⟨qb, i, none⟩ v) F pt hb qb (upd qv i v) ev en { h with q := h.q.set i l } := by
  have hq := m.lt _ m.fq
  have hh := m.lt _ m.fh
  have r := m.rows i hi P hP
  obtain ⟨c, hc⟩ := m.qt
  have k2 : Keeps (fun g => g = qb) w1 (w1.setCell ⟨qb, i, none⟩ v) := Keeps.setCell (B := fun g => g = qb) (Keeps.refl _ _) rfl _
  have kk : Keeps (fun g => g = P ∨ g = qb) w (w1.setCell ⟨qb, i, none⟩ v) := (k.mono (fun _ e => .inl e)).trans (k2.mono (fun _ e => .inr e))
  have e1 : w1.heap[qb]? = _ := (k.block qb hq (fun e => r.2.1 e.symm)).trans hc
  have ec : ∀ j, w1.cell? ⟨qb, j, none⟩ = w.cell? ⟨qb, j, none⟩ := fun j => k.cell (p := ⟨qb, j, none⟩) hq (fun e => r.2.1 e.symm)
  have ew : ∀ j, j < h.q.length → ((upd qv i v) j).ownBlock = (qv j).ownBlock := fun j hj => by
    by_cases e : j = i
    · subst e; rw [upd_same, hv, hP]
    · rw [upd_other _ _ e]
  refine ⟨?_, ⟨_, heapSet e1 _⟩, fun j hj => ?_, fun j hj => ?_, fun j j' g hj hj' hn h1 h2 => ?_, owK m.oe kk (fun g hg e => e.elim (fun e => r.2.2.1 (e ▸ hg)) (fun e => (m.evs g hg).2.1 e)), owK m.ot kk (fun g hg e => e.elim (fun e => r.2.2.2 (e ▸ hg)) (fun e => (m.ens g hg).2 e)), m.fh, m.fq, fun j g hj hg => ?_, m.fe, m.fn, fun x hx => Nat.lt_of_lt_of_le (m.lt x hx) kk.size, by simpa using m.n16⟩
  · rw [List.length_set]
    exact (kk.block hb hh (fun e => e.elim (fun e => r.1 e.symm) (fun e => m.hq e))).trans m.hc
  · rw [List.length_set] at hj
    by_cases e : j = i
    · subst e; rw [upd_same]
      exact World.cell?_setCell_same _ _ _ ((ec j).trans (m.qc j hj))
    · rw [upd_other _ _ e, World.cell?_setCell_other _ _ _ _ (fun e' => e (congrArg Addr.off e').symm), ec]
      exact m.qc j hj
  · have hj2 : j < h.q.length := by simpa using hj
    by_cases e : j = i
    · subst e
      rw [upd_same]
      simp only [List.getElem_set_self]
      exact owK ho k2 (fun g hg e => r.2.1 ((Option.some.inj (hv.symm.trans hg) : P = g).trans e))
    · rw [upd_other _ _ e]
      simp only [List.getElem_set_ne (fun e' => e e'.symm)]
      exact owK (m.ql j hj2) kk (fun g hg e' => e'.elim (fun e' => m.qa j i g hj2 hi e hg (e' ▸ hP)) (fun e' => (m.rows j hj2 g hg).2.1 e'))
  · rw [List.length_set] at hj hj'
    rw [ew j hj] at h1
    rw [ew j' hj'] at h2
    exact m.qa j j' g hj hj' hn h1 h2
  · rw [List.length_set] at hj
    rw [ew j hj] at hg
    exact m.fr j g hj hg
theorem Rh.head {w : World} {F : Nat → Prop} {pt : Nat} {hb qb : Nat} {qv : Nat → Value} {ev en : Value} {h : Hp} (m : Rh w F pt hb qb qv ev en h) {i : Nat} (hi : i < h.q.length) {x : Pq} {l : List Pq} (hq : h.q[i] = x :: l) :
    ∃ P cap, qv i = .slice (some ⟨P, 0, none⟩) (x :: l).length cap ∧ (qv i).ownBlock = some P ∧ OwR w (.slice (some ⟨P, 0, none⟩) (x :: l).length cap) (x :: l) ∧ w.cell? ⟨P, 0, none⟩ = some (.int .i64 (x.1 : Int)) ∧ w.cell? ⟨P, 1, none⟩ = some (.int .i64 x.2.1) ∧ w.cell? ⟨P, 2, none⟩ = some (.bool x.2.2) ∧ w.frozen? ⟨P, 2, none⟩ = false := by
  have o := m.ql i hi
  rw [hq] at o
  obtain ⟨P, cap, e, _, _⟩ := owG_some o (by simp)
  rw [e] at o
  exact ⟨P, cap, e, by rw [e]; rfl, o, (World.ownsRow.cellAt o 0 (by simp only [List.length_cons]; omega)).trans rfl, (World.ownsRow.cellAt o 1 (by simp only [List.length_cons]; omega)).trans rfl, (World.ownsRow.cellAt o 2 (by simp only [List.length_cons]; omega)).trans rfl, World.ownsRow.frozenAt o 2⟩
theorem Rh.inrow {w w1 : World} {F : Nat → Prop} {pt : Nat} {hb qb : Nat} {qv : Nat → Value} {ev en : Value} {h : Hp} {P i : Nat} {l : List Pq} (m : Rh w F pt hb qb qv ev en h) (hi : i < h.q.length) (hP : (qv i).ownBlock = some P) (k : Keeps (fun g => g = P) w w1) (ho : OwR w1 (qv i) l) :
    Rh w1 F pt hb qb qv ev en { h with q := h.q.set i l } := by
  have hq := m.lt _ m.fq
  have hh := m.lt _ m.fh
  have r := m.rows i hi P hP
  obtain ⟨c, hc⟩ := m.qt
  refine ⟨?_, ⟨_, (k.block qb hq (fun e => r.2.1 e.symm)).trans hc⟩, fun j hj => ?_, fun j hj => ?_, fun j j' g hj hj' hn h1 h2 => ?_, owK m.oe k (fun g hg e => r.2.2.1 (e ▸ hg)), owK m.ot k (fun g hg e => r.2.2.2 (e ▸ hg)), m.fh, m.fq, fun j g hj hg => ?_, m.fe, m.fn, fun x hx => Nat.lt_of_lt_of_le (m.lt x hx) k.size, by simpa using m.n16⟩
  · rw [List.length_set]
    exact (k.block hb hh (fun e => r.1 e.symm)).trans m.hc
  · rw [List.length_set] at hj
    exact (k.cell (p := ⟨qb, j, none⟩) hq (fun e => r.2.1 e.symm)).trans (m.qc j hj)
  · have hj2 : j < h.q.length := by simpa using hj
    by_cases e : j = i
    · subst e
      simp only [List.getElem_set_self]
      exact ho
    · simp only [List.getElem_set_ne (fun e' => e e'.symm)]
      exact owK (m.ql j hj2) k (fun g hg e' => m.qa j i g hj2 hi e hg (e' ▸ hP))
  · rw [List.length_set] at hj hj'
    exact m.qa j j' g hj hj' hn h1 h2
  · rw [List.length_set] at hj
    exact m.fr j g hj hg
theorem Rh.mark {w : World} {F : Nat → Prop} {pt : Nat} {hb qb : Nat} {qv : Nat → Value} {ev en : Value} {h : Hp} {P i cap : Nat} {x : Pq} {l : List Pq} (m : Rh w F pt hb qb qv ev en h) (hi : i < h.q.length) (hv : qv i = .slice (some ⟨P, 0, none⟩) (x :: l).length cap) (ho : OwR w (.slice (some ⟨P, 0, none⟩) (x :: l).length cap) (x :: l)) :
    Rh (w.setCell ⟨P, 2, none⟩ (.bool true)) F pt hb qb qv ev en { h with q := h.q.set i ((x.1, x.2.1, true) :: l) } := by
  have hP : (qv i).ownBlock = some P := by rw [hv]; rfl
  refine m.inrow hi hP (Keeps.setCell (B := fun g => g = P) (Keeps.refl _ _) rfl _) ?_
  rw [hv]
  have h2 := (World.ownsRow.stored ho 2 (.bool true)).1
  exact h2
end Go.Proofs.YtdpebhdjcgiboaaGreat

namespace Go.Proofs.YtdpebhdjcgiboaaGreat
open Go.ChangeShapes Go.WideShapes Go.ChangeAt Go.RowKit Go.MuLone Go.RwLone
set_option linter.unusedVariables false
set_option maxRecDepth 100000
set_option maxHeartbeats 3200000
theorem rhas_any (w : World) (hb n : Nat) (qa : Option Addr) (c : Nat) (x : Int) (h : w.cell? ⟨hb, 1, none⟩ = some (.slice qa n c)) : Calls Tryz.prog 112 #[.pointer (some ⟨hb, 0, none⟩), .int .i64 x] w fun e w' => e = .returned (.bool (decide (0 ≤ x ∧ x < (n : Int)))) ∧ w' = w := by
  by_cases h1 : 0 ≤ x
  · by_cases h2 : x < (n : Int)
    · have hd : decide (0 ≤ x ∧ x < (n : Int)) = true := by simp [h1, h2]
      rw [hd]
      go_enter Tryz.func112, Tryz.ntmps112
      go_wp2
      go_ret
      exact ⟨rfl, rfl⟩
    · have hd : decide (0 ≤ x ∧ x < (n : Int)) = false := by simp [h2]
      rw [hd]
      go_enter Tryz.func112, Tryz.ntmps112
      go_wp2
      go_ret
      exact ⟨rfl, rfl⟩
  · have hd : decide (0 ≤ x ∧ x < (n : Int)) = false := by simp [h1]
    rw [hd]
    go_enter Tryz.func112, Tryz.ntmps112
    go_wp2
    go_ret
    exact ⟨rfl, rfl⟩
theorem rpend_in {w : World} {F : Nat → Prop} {pt : Nat} {hb qb : Nat} {qv : Nat → Value} {ev en : Value} {h : Hp} (m : Rh w F pt hb qb qv ev en h) (i : Nat) (hi : i < h.q.length) : Calls Tryz.prog 70 #[.pointer (some ⟨hb, 0, none⟩), .int .i64 (i : Int)] w fun e w' => e = .returned (.int .i64 ((h.q[i].length : Nat) : Int)) ∧ w' = w := by
  have hq : w.cell? ⟨hb, 1, none⟩ = some (.slice (some ⟨qb, 0, none⟩) h.q.length h.q.length) := (cell?_heap m.hc 1).trans rfl
  obtain ⟨a, cap, e⟩ := (m.ql i hi).form
  have hr := m.qc i hi
  rw [e] at hr
  have h0 : (0 : Int) ≤ (i : Int) := Int.natCast_nonneg _
  have h1 : (i : Int) < (h.q.length : Int) := by omega
  have hd : decide (0 ≤ (i : Int) ∧ (i : Int) < (h.q.length : Int)) = true := by simp [h0, h1]
  clear m e
  generalize h.q[i].length = ln at *
  generalize h.q.length = n at *
  go_enter Tryz.func70, Tryz.ntmps70
  go_wp2_with fail
  refine (rhas_any w hb n _ _ i hq).mono ?_
  rintro e w' ⟨rfl, rfl⟩
  rw [hd]
  clear hd
  go_wp2
  go_ret
  exact ⟨rfl, rfl⟩
theorem rpend_out {w : World} {F : Nat → Prop} {pt : Nat} {hb qb : Nat} {qv : Nat → Value} {ev en : Value} {h : Hp} (m : Rh w F pt hb qb qv ev en h) (x : Int) (hx : ¬ (0 ≤ x ∧ x < (h.q.length : Int))) : Calls Tryz.prog 70 #[.pointer (some ⟨hb, 0, none⟩), .int .i64 x] w fun e w' => e = .returned (.int .i64 0) ∧ w' = w := by
  have hq : w.cell? ⟨hb, 1, none⟩ = some (.slice (some ⟨qb, 0, none⟩) h.q.length h.q.length) := (cell?_heap m.hc 1).trans rfl
  have hd : decide (0 ≤ x ∧ x < (h.q.length : Int)) = false := decide_eq_false hx
  clear m hx
  go_enter Tryz.func70, Tryz.ntmps70
  go_wp2_with fail
  refine (rhas_any w hb _ _ _ x hq).mono ?_
  rintro e w' ⟨rfl, rfl⟩
  rw [hd]
  clear hd
  go_wp2
  go_ret
  exact ⟨rfl, rfl⟩
end Go.Proofs.YtdpebhdjcgiboaaGreat

namespace Go.Proofs.YtdpebhdjcgiboaaGreat
open Go.ChangeShapes Go.WideShapes Go.ChangeAt Go.RowKit Go.MuLone Go.RwLone
set_option linter.unusedVariables false
set_option maxRecDepth 100000
set_option maxHeartbeats 3200000
theorem ridle_any {w : World} {F : Nat → Prop} {pt : Nat} {hb qb : Nat} {qv : Nat → Value} {ev en : Value} {h : Hp} (m : Rh w F pt hb qb qv ev en h) : Calls Tryz.prog 71 #[.pointer (some ⟨hb, 0, none⟩)] w fun e w' => e = .returned (.bool (idleP h)) ∧ w' = w := by
  have HM : Hid (Rh w F pt hb qb qv ev en h) := m
  have ch : w.cell? ⟨hb, 1, none⟩ = some (.slice (some ⟨qb, 0, none⟩) h.q.length h.q.length) := (cell?_heap m.hc 1).trans rfl
  have hn16 := m.n16
  clear m
  go_enter Tryz.func71, Tryz.ntmps71
  go_wp2_with fail
  go_loopw [3] (fun c wr => wr = w ∧ ∃ t : Nat, c = .int .i64 t ∧ t ≤ h.q.length ∧ ∀ k (hk : k < h.q.length), k < t → h.q[k] = []) (fun c _ => h.q.length - (intOf c).toNat)
  case atStart => exact ⟨rfl, 0, rfl, by omega, fun k _ hk => by omega⟩
  case round =>
    obtain ⟨rfl, t, rfl, ht, hall⟩ := hrel
    have HD : Hid (∀ k (hk : k < h.q.length), k < t → h.q[k] = []) := hall
    clear hall
    by_cases h4 : t < h.q.length
    · have cr := HM.out.qc t h4
      obtain ⟨qa, qcap, eqv⟩ := (HM.out.ql t h4).form
      rw [eqv] at cr
      have t0 : (0 : Int) ≤ (t : Int) := Int.natCast_nonneg _
      have t1 : (t : Int) < (h.q.length : Int) := by omega
      clear eqv
      by_cases hd : h.q[t] = []
      · have hl0 : h.q[t].length = 0 := by rw [hd]; rfl
        rw [hl0] at cr
        have HD2 : Hid (h.q[t] = []) := hd
        clear hd hl0
        go_wp2
        go_roundw
        case rel =>
          refine ⟨trivial, t + 1, by go_num, by omega, fun k hk hkt => ?_⟩
          by_cases e : k = t
          · subst e; exact HD2.out
          · exact HD.out k hk (by omega)
        case measure => simp [intOf]; omega
      · have hl1 : (0 : Int) < (h.q[t].length : Int) := by
          have : h.q[t].length ≠ 0 := fun e => hd (List.eq_nil_of_length_eq_zero e)
          omega
        have HE : Hid (idleP h = false) := by
          show _ = _
          unfold idleP
          rw [List.all_eq_false]
          exact ⟨h.q[t], List.getElem_mem h4, by simpa using hd⟩
        clear hd
        generalize h.q[t].length = ln at *
        go_wp2
        go_ret
        rw [HE.out]
        exact ⟨rfl, rfl⟩
    · have HE : Hid (idleP h = true) := by
        show _ = _
        unfold idleP
        rw [List.all_eq_true]
        intro l hl
        obtain ⟨k, hk, rfl⟩ := List.getElem_of_mem hl
        rw [HD.out k hk (by omega)]; rfl
      go_wp2
      go_ret
      rw [HE.out]
      exact ⟨rfl, rfl⟩
/-- In the midst of a step: what has come of the harness and the machines since w. -/
structure Mr (R : Rd) (w wx : World) (F : Nat → Prop) (hb qb : Nat) (F' : Nat → Prop) (qv : Nat → Value) (ev en : Value) (h : Hp) (s : Ls) : Prop where
  m : Rh wx F' R.bk hb qb qv ev en h
  o : RP R wx s
  k : Keeps (fun x => F x ∨ fRw R x) w wx
  f : ∀ y, F' y → F y ∨ w.heap.size ≤ y
  d : ∀ y, F' y → ¬ fR R y
theorem Mr.next {R : Rd} {w wx wy : World} {F : Nat → Prop} {hb qb : Nat} {F' F'' : Nat → Prop} {qv qv' : Nat → Value} {ev en ev' en' : Value} {h h' : Hp} {s : Ls} (a : Mr R w wx F hb qb F' qv ev en h s) (m : Rh wy F'' R.bk hb qb qv' ev' en' h') (k : Keeps F' wx wy) (f : ∀ y, F'' y → F' y ∨ wx.heap.size ≤ y) : Mr R w wy F hb qb F'' qv' ev' en' h' s := by
  have hs := a.k.size
  refine ⟨m, a.o.keeps k a.d, ⟨k.os.trans a.k.os, k.tape.trans a.k.tape, k.output.trans a.k.output, Nat.le_trans hs k.size, fun g hg hn => (k.block g (by omega) (fun e => (a.f g e).elim (fun e => hn (.inl e)) (fun e => by omega))).trans (a.k.block g hg hn)⟩, fun y hy => ?_, fun y hy hM => ?_⟩
  · rcases f y hy with e | e
    · exact a.f y e
    · right; omega
  · rcases f y hy with e | e
    · exact a.d y e hM
    · have := a.o.lt _ hM
      omega
theorem Mr.go {R : Rd} {w wx wy : World} {F : Nat → Prop} {hb qb : Nat} {F' : Nat → Prop} {qv : Nat → Value} {ev en : Value} {h : Hp} {s s' : Ls} (a : Mr R w wx F hb qb F' qv ev en h s) (o : RP R wy s') (k : Keeps (fRw R) wx wy) : Mr R w wy F hb qb F' qv ev en h s' :=
  ⟨a.m.keeps k (fun y hM hy => a.d y hy (.inl hM)), o, a.k.trans (k.mono (fun _ e => .inr e)), a.f, a.d⟩
theorem Mr.start {R : Rd} {w : World} {F : Nat → Prop} {hb qb : Nat} {qv : Nat → Value} {ev en : Value} {h : Hp} {s : Ls} (m : Rh w F R.bk hb qb qv ev en h) (o : RP R w s) (d : ∀ y, F y → ¬ fR R y) : Mr R w w F hb qb F qv ev en h s := ⟨m, o, Keeps.refl _ _, fun _ e => .inl e, d⟩
theorem Mr.still {R : Rd} {w wx wy : World} {F : Nat → Prop} {hb qb : Nat} {F' : Nat → Prop} {qv : Nat → Value} {ev en : Value} {h : Hp} {s : Ls} (a : Mr R w wx F hb qb F' qv ev en h s) (k : Keeps (fun _ => False) wx wy) : Mr R w wy F hb qb F' qv ev en h s := a.go (a.o.still k) (k.mono (fun _ e => e.elim))
end Go.Proofs.YtdpebhdjcgiboaaGreat
