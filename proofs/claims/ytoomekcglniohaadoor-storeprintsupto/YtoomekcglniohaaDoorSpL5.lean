import Derived.Test.YtoomekcglniohaaDoorSpL4
namespace Go.Proofs.YtoomekcglniohaaDoor
open Go.ChangeShapes Go.WideShapes Go.ChangeAt Go.RowKit
set_option linter.unusedVariables false
set_option maxRecDepth 100000
/-- A reply and the values of its three lists. -/
abbrev RPV := RP × Value × Value × Value
def cS (s : ByteArray) : List Value := [.string s]
def cI (n : Int) : List Value := [.int .i64 n]
def cV (v : VL) : List Value := [.int .i64 v.1, .int .i64 v.2.1, .string v.2.2]
def cL (p : Value × List VL) : List Value := [p.1]
def cR (p : RPV) : List Value := [.int .i64 p.1.cmd, .int .i64 p.1.kind, .int .i64 p.1.who, .int .i64 p.1.code, .int .i64 p.1.rcode, p.2.1, p.2.2.1, .int .i64 p.1.count, .int .u64 p.1.stamp, .int .i64 p.1.fin, p.2.2.2]
theorem infoSt : (Tryd.prog.info? 9).map (fun i => (i.zero, i.size, i.bytes)) = some (some (.string ⟨#[]⟩), 1, 16) := by kernel_rfl
theorem infoIn : (Tryd.prog.info? 3).map (fun i => (i.zero, i.size, i.bytes)) = some (some (.int .i64 0), 1, 8) := by kernel_rfl
theorem infoVa : (Tryd.prog.info? 65).map (fun i => (i.zero, i.size, i.bytes)) = some (some (.agg #[.int .i64 0, .int .i64 0, .string ⟨#[]⟩]), 3, 32) := by kernel_rfl
theorem infoLi : (Tryd.prog.info? 38).map (fun i => (i.zero, i.size, i.bytes)) = some (some (.slice none 0 0), 1, 24) := by kernel_rfl
theorem infoRa : (Tryd.prog.info? 32).map (fun i => (i.zero, i.size, i.bytes)) = some (some (.agg #[.int .i64 0, .int .i64 0, .int .i64 0, .int .i64 0, .int .i64 0, .slice none 0 0, .slice none 0 0, .int .i64 0, .int .u64 0, .int .i64 0, .slice none 0 0]), 11, 136) := by kernel_rfl
theorem infoRs : (Tryd.prog.info? 36).map (fun i => (i.zero, i.size, i.bytes)) = some (some (.agg #[.int .i64 0, .int .i64 0, .int .i64 0, .int .i64 0, .int .i64 0, .slice none 0 0, .slice none 0 0, .int .i64 0, .int .u64 0, .int .i64 0, .slice none 0 0]), 11, 136) := by kernel_rfl
/-- A reply whose lists lie in blocks below B. -/
structure RpSee (w : World) (B : Nat) (p : RPV) : Prop where
  names : InG cS w B p.2.1 p.1.names
  rows : ∃ qs : List (Value × List VL), qs.map (·.2) = p.1.rows ∧ InG cL w B p.2.2.1 qs ∧ ∀ q ∈ qs, InG cV w B q.1 q.2
  nums : InG cI w B p.2.2.2 p.1.nums
theorem RpSee.later {w w' : World} {B : Nat} {p : RPV} (h : RpSee w B p) (hb : Below B w w') : RpSee w' B p := by
  obtain ⟨qs, e, h1, h2⟩ := h.rows
  exact ⟨h.names.later hb, ⟨qs, e, h1.later hb, fun q hq => (h2 q hq).later hb⟩, h.nums.later hb⟩
theorem RpSee.up {w : World} {B C : Nat} {p : RPV} (h : RpSee w B p) (hb : B ≤ C) : RpSee w C p := by
  obtain ⟨qs, e, h1, h2⟩ := h.rows
  exact ⟨h.names.up hb, ⟨qs, e, h1.up hb, fun q hq => (h2 q hq).up hb⟩, h.nums.up hb⟩
theorem InG.names {w : World} {B : Nat} {v : Value} {xs : List ByteArray} (h : InG cS w B v xs) : SeesG Value.string w B v xs := by
  have hh := h
  obtain ⟨a, cap, rfl, hc, _⟩ := h
  refine ⟨a, cap, rfl, hc, fun i hi => ?_⟩
  obtain ⟨b, off, e1, e2, e3⟩ := hh.cell (n := 1) (fun _ => rfl) i hi (by omega)
  exact ⟨b, off, e1, e2, by have := e3 0 (by omega); rw [Nat.mul_one, Nat.add_zero] at this; exact this⟩
theorem InG.nums {w : World} {B : Nat} {v : Value} {xs : List Int} (h : InG cI w B v xs) : SeesG (Value.int .i64) w B v xs := by
  have hh := h
  obtain ⟨a, cap, rfl, hc, _⟩ := h
  refine ⟨a, cap, rfl, hc, fun i hi => ?_⟩
  obtain ⟨b, off, e1, e2, e3⟩ := hh.cell (n := 1) (fun _ => rfl) i hi (by omega)
  exact ⟨b, off, e1, e2, by have := e3 0 (by omega); rw [Nat.mul_one, Nat.add_zero] at this; exact this⟩
theorem InG.vals {w : World} {B : Nat} {v : Value} {xs : List VL} (h : InG cV w B v xs) : SeesV w B v xs := by
  have hh := h
  obtain ⟨a, cap, rfl, hc, _⟩ := h
  refine ⟨a, cap, rfl, hc, fun i hi => ?_⟩
  obtain ⟨b, off, e1, e2, e3⟩ := hh.cell (n := 3) (fun _ => rfl) i hi (by omega)
  exact ⟨b, off, e1, e2, e3 0 (by omega), e3 1 (by omega), e3 2 (by omega)⟩
theorem rows_see {w : World} {B : Nat} {v : Value} {qs : List (Value × List VL)} (h : InG cL w B v qs) (h2 : ∀ q ∈ qs, InG cV w B q.1 q.2) : SeesRs w B v (qs.map (·.2)) := by
  have hh := h
  obtain ⟨a, cap, rfl, hc, _⟩ := h
  refine ⟨a, cap, by rw [List.length_map], by rw [List.length_map]; exact hc, fun i hi => ?_⟩
  have hi' : i < qs.length := by rw [List.length_map] at hi; exact hi
  obtain ⟨b, off, e1, e2, e3⟩ := hh.cell (n := 1) (fun _ => rfl) i hi' (by omega)
  refine ⟨b, off, qs[i].1, e1, e2, by have := e3 0 (by omega); rw [Nat.mul_one, Nat.add_zero] at this; exact this, ?_⟩
  rw [List.getElem_map]
  exact (h2 _ (List.getElem_mem hi')).vals
/-- The cells of a reply that came in, with its lists. -/
theorem rep_at {w : World} {B m cap : Nat} {a : Option Addr} {ps : List RPV} (h : InG cR w B (.slice a m cap) ps) (hs : ∀ p ∈ ps, RpSee w B p) (i : Nat) (hi : i < ps.length) :
    ∃ b off na nc ra rc ma mc, a = some ⟨b, off, none⟩ ∧ b < B ∧ ps[i].2 = (.slice na ps[i].1.names.length nc, .slice ra ps[i].1.rows.length rc, .slice ma ps[i].1.nums.length mc) ∧ RpIn w B b (off + i * 11) ps[i].1 na nc ra rc ma mc := by
  obtain ⟨b, off, e1, e2, e3⟩ := h.cell (n := 11) (fun _ => rfl) i hi (by omega)
  have hp := hs _ (List.getElem_mem hi)
  generalize ps[i] = p at *
  obtain ⟨r, vn, vr, vm⟩ := p
  obtain ⟨qs, eq, h1, h2⟩ := hp.rows
  have hr := rows_see h1 h2
  rw [eq] at hr
  obtain ⟨na, nc, en⟩ := hp.names.names.form
  obtain ⟨ra, rc, er⟩ := hr.form
  obtain ⟨ma, mc, em⟩ := hp.nums.nums.form
  have hn := hp.names.names
  have hm := hp.nums.nums
  dsimp only at en er em hn hr hm
  subst en er em
  exact ⟨b, off, na, nc, ra, rc, ma, mc, e1, e2, rfl, e3 0 (by omega), e3 1 (by omega), e3 2 (by omega), e3 3 (by omega), e3 4 (by omega), e3 5 (by omega), e3 6 (by omega), e3 7 (by omega), e3 8 (by omega), e3 9 (by omega), e3 10 (by omega), hn, hr, hm⟩
theorem reps_see {w : World} {B : Nat} {v : Value} {ps : List RPV} (h : InG cR w B v ps) (hs : ∀ p ∈ ps, RpSee w B p) : SeesP w B v (ps.map (·.1)) := by
  have hh := h
  obtain ⟨a, cap, rfl, hc, _⟩ := h
  refine ⟨a, cap, by rw [List.length_map], by rw [List.length_map]; exact hc, fun i hi => ?_⟩
  have hi' : i < ps.length := by rw [List.length_map] at hi; exact hi
  obtain ⟨b, off, na, nc, ra, rc, ma, mc, e1, e2, e3, e4⟩ := rep_at hh hs i hi'
  refine ⟨b, off, e1, e2, na, nc, ra, rc, ma, mc, ?_⟩
  rw [List.getElem_map]
  exact e4
/-- A reply whose lists are rows of the call's own. -/
structure RpOwn (w : World) (p : RPV) : Prop where
  names : OwG cS 9 1 w 0 p.2.1 p.1.names
  rows : ∃ qs : List (Value × List VL), qs.map (·.2) = p.1.rows ∧ OwG cL 38 1 w 0 p.2.2.1 qs ∧ ∀ q ∈ qs, OwG cV 65 3 w 0 q.1 q.2
  nums : OwG cI 3 1 w 0 p.2.2.2 p.1.nums
theorem RpOwn.kept {w w' : World} {p : RPV} (h : RpOwn w p) (hk : KpT 36 w w') : RpOwn w' p := by
  obtain ⟨qs, e, h1, h2⟩ := h.rows
  exact ⟨h.names.kept hk (by decide), ⟨qs, e, h1.kept hk (by decide), fun q hq => (h2 q hq).kept hk (by decide)⟩, h.nums.kept hk (by decide)⟩
theorem RpOwn.see {w : World} {p : RPV} (h : RpOwn w p) : RpSee w w.heap.size p := by
  obtain ⟨qs, e, h1, h2⟩ := h.rows
  exact ⟨h.names.in, ⟨qs, e, h1.in, fun q hq => (h2 q hq).in⟩, h.nums.in⟩
/-- What stands while a reply is copied. -/
structure QS (w W : World) (cr cq : Array Value) : Prop where
  bel : Below w.heap.size w W
  br : W.heap[w.heap.size]? = some (.cells cr 32)
  bq : W.heap[w.heap.size + 1]? = some (.cells cq 36)
theorem QS.call {w W W' : World} {cr cq : Array Value} (h : QS w W cr cq) (hb : Below (w.heap.size + 2) W W') : QS w W' cr cq :=
  ⟨h.bel.trans (hb.mono (by omega)), (hb.block _ (by omega)).trans h.br, (hb.block _ (by omega)).trans h.bq⟩
theorem QS.lt {w W : World} {cr cq : Array Value} (h : QS w W cr cq) : w.heap.size + 2 ≤ W.heap.size := (Array.getElem?_eq_some_iff.1 h.bq).1
theorem QS.cell {w W : World} {cr cq : Array Value} (h : QS w W cr cq) (i : Nat) : W.cell? ⟨w.heap.size, i, none⟩ = cr[i]? := by
  unfold World.cell?
  rw [h.br]
  rfl
theorem QS.dell {w W : World} {cr cq : Array Value} (h : QS w W cr cq) (i : Nat) : W.cell? ⟨w.heap.size + 1, i, none⟩ = cq[i]? := by
  unfold World.cell?
  rw [h.bq]
  rfl
theorem QS.free {w W : World} {cr cq : Array Value} (h : QS w W cr cq) (i : Nat) : W.frozen? ⟨w.heap.size + 1, i, none⟩ = false := by simp [World.frozen?, h.bq]
theorem QS.set {w W : World} {cr cq : Array Value} (h : QS w W cr cq) (i : Nat) (u : Value) : QS w (W.setCell ⟨w.heap.size + 1, i, none⟩ u) cr (cq.setIfInBounds i u) := by
  refine ⟨h.bel.setCell (p := ⟨w.heap.size + 1, i, none⟩) (by show _ ≤ w.heap.size + 1; omega) _, (Below.heap_setCell _ _ _ _ (by show w.heap.size ≠ w.heap.size + 1; omega)).trans h.br, ?_⟩
  simp [World.setCell, Array.getElem?_modify, h.bq]
theorem QS.kp {w W : World} {cr cq : Array Value} (h : QS w W cr cq) (i : Nat) (u : Value) : KpT 36 W (W.setCell ⟨w.heap.size + 1, i, none⟩ u) := KpT.set h.bq u
end Go.Proofs.YtoomekcglniohaaDoor
