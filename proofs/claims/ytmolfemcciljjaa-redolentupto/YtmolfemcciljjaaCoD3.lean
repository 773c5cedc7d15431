import Derived.Test.YtmolfemcciljjaaCoD2
import Derived.Test.YtmolfemcciljjaaPlacedLaw
namespace Go.Proofs.Ytmolfemcciljjaa
open Go.ChangeShapes Go.WideShapes Go.ChangeAt Go.RowKit
set_option linter.unusedVariables false
set_option maxRecDepth 100000
/-- A commit in a block of its own. -/
def Wc2 (W : World) (g : Nat) (a b : Value) : Prop := W.heap[g]? = some (.cells #[a, b] 25 (0, 0))
theorem Wc2.c0 {W : World} {g : Nat} {a b : Value} (h : Wc2 W g a b) : W.cell? ⟨g, 0, none⟩ = some a := by
  unfold Wc2 at h
  simp [World.cell?, h]
theorem Wc2.c1 {W : World} {g : Nat} {a b : Value} (h : Wc2 W g a b) : W.cell? ⟨g, 1, none⟩ = some b := by
  unfold Wc2 at h
  simp [World.cell?, h]
theorem Wc2.free {W : World} {g : Nat} {a b : Value} (h : Wc2 W g a b) (j : Nat) : W.frozen? ⟨g, j, none⟩ = false := by
  unfold Wc2 at h
  simp [World.frozen?, h]
theorem Wc2.set {W : World} {g : Nat} {a b : Value} (h : Wc2 W g a b) (a' b' : Value) : Wc2 ((W.setCell ⟨g, 0, none⟩ a').setCell ⟨g, 1, none⟩ b') g a' b' := by
  unfold Wc2 at h ⊢
  simp [World.setCell, Array.getElem?_modify, h]
theorem Wc2.set1 {W : World} {g : Nat} {a b : Value} (h : Wc2 W g a b) (b' : Value) : Wc2 (W.setCell ⟨g, 1, none⟩ b') g a b' := by
  unfold Wc2 at h ⊢
  simp [World.setCell, Array.getElem?_modify, h]
theorem Wc2.lt {W : World} {g : Nat} {a b : Value} (h : Wc2 W g a b) : g < W.heap.size := by
  rcases Nat.lt_or_ge g W.heap.size with h1 | h1
  · exact h1
  · unfold Wc2 at h
    rw [Array.getElem?_eq_none h1] at h
    cases h
theorem Wc2.fr {W W' : World} {g R : Nat} {a b : Value} (h : Wc2 W g a b) (hf : Fr R W W') (hn : g ≠ R) : Wc2 W' g a b := (hf.rest g h.lt hn).trans h
theorem Wc2.later {W W' : World} {g : Nat} {a b : Value} (h : Wc2 W g a b) (hb : Below W.heap.size W W') : Wc2 W' g a b := (hb.block g h.lt).trans h
theorem Wc2.other {W : World} {g : Nat} {a b : Value} (h : Wc2 W g a b) {p : Addr} (v : Value) (hp : g ≠ p.block) : Wc2 (W.setCell p v) g a b := (Below.heap_setCell W p v g hp).trans h
/-- A row of writes that were just made. -/
theorem made_ownW {w : World} {B g n : Nat} (h : w.ownsRow B 47 3 (.slice (some ⟨g, 0, none⟩) n n) n (madeCells (Value.agg #[.int .i64 0, .string ⟨#[]⟩, .string ⟨#[]⟩]).cells (n * 3)).toList) : ownW w B (.slice (some ⟨g, 0, none⟩) n n) (List.replicate n ((0 : Int), (⟨#[]⟩ : ByteArray), (⟨#[]⟩ : ByteArray))) := by
  have e : ∀ n, (madeCells (Value.agg #[.int .i64 0, .string ⟨#[]⟩, .string ⟨#[]⟩]).cells (n * 3)).toList = cellsW (List.replicate n ((0 : Int), (⟨#[]⟩ : ByteArray), (⟨#[]⟩ : ByteArray))) := fun n => by
    apply List.ext_getElem?
    intro i
    by_cases hi : i < n * 3
    · have hc := cellsW_get (List.replicate n ((0 : Int), (⟨#[]⟩ : ByteArray), (⟨#[]⟩ : ByteArray))) (i / 3) (by simp; omega)
      simp only [List.getElem_replicate] at hc
      have : i % 3 = 0 ∨ i % 3 = 1 ∨ i % 3 = 2 := by omega
      rcases this with h | h | h
      · have e3 : i / 3 * 3 = i := by omega
        have hc' := hc.1
        rw [e3] at hc'
        rw [hc']
        simp [madeCells, Value.cells, hi, h]
      · have e3 : i / 3 * 3 + 1 = i := by omega
        have hc' := hc.2.1
        rw [e3] at hc'
        rw [hc']
        simp [madeCells, Value.cells, hi, h]
      · have e3 : i / 3 * 3 + 2 = i := by omega
        have hc' := hc.2.2
        rw [e3] at hc'
        rw [hc']
        simp [madeCells, Value.cells, hi, h]
    · rw [List.getElem?_eq_none (by simp [madeCells]; omega), List.getElem?_eq_none (by rw [cellsW_len]; simp; omega)]
  rw [e] at h
  unfold ownW
  rw [List.length_replicate]
  exact h
theorem ownW.one {W W' : World} {B gr n cap : Nat} {ms : List W3} (h : ownW W B (.slice (some ⟨gr, 0, none⟩) n cap) ms) (he : W'.heap[gr]? = W.heap[gr]?) : ownW W' B (.slice (some ⟨gr, 0, none⟩) n cap) ms := by
  refine ⟨h.1, ?_⟩
  rcases h.2 with ⟨e, _⟩ | ⟨g, c, cur, e, h1, h2, h3⟩
  · cases e
  · have e' := e
    simp only [Value.slice.injEq, Option.some.injEq, Addr.mk.injEq] at e
    obtain ⟨⟨rfl, -, -⟩, -, -⟩ := e
    exact .inr ⟨gr, c, cur, e', h1, he.trans h2, h3⟩
theorem ownW.blk {W : World} {B gr n cap : Nat} {ms : List W3} (h : ownW W B (.slice (some ⟨gr, 0, none⟩) n cap) ms) : gr < W.heap.size ∧ B ≤ gr := by
  rcases h.2 with ⟨e, _⟩ | ⟨g, c, cur, e, h1, h2, h3⟩
  · cases e
  · simp only [Value.slice.injEq, Option.some.injEq, Addr.mk.injEq] at e
    obtain ⟨⟨rfl, -, -⟩, -, -⟩ := e
    exact ⟨(Array.getElem?_eq_some_iff.1 h2).1, h1⟩
/-- What stands while a commit's writes are read. -/
structure CoS (w : World) (R g gr n : Nat) (s : ByteArray) (st : Int) (W : World) (p : Nat) (ms : List W3) : Prop where
  bel : Below w.heap.size w W
  z : Wc2 W w.heap.size (.int .u64 0) (.slice none 0 0)
  rd : RdC W R s p
  hg : Wc2 W g (.int .u64 st) (.slice (some ⟨gr, 0, none⟩) n n)
  own : ownW W (w.heap.size + 1) (.slice (some ⟨gr, 0, none⟩) n n) ms
  len : ms.length = n
  r1 : w.heap.size < R
  r2 : w.heap.size < g
  r3 : w.heap.size < gr
  n1 : R ≠ g
  n2 : R ≠ gr
  n3 : g ≠ gr
theorem CoS.read {w : World} {R g gr n : Nat} {s : ByteArray} {st : Int} {W W' : World} {p q : Nat} {ms : List W3} (h : CoS w R g gr n s st W p ms) (hf : Fr R W W') (hr : RdC W' R s q) : CoS w R g gr n s st W' q ms :=
  ⟨h.bel.trans (hf.toBelow.mono (Nat.le_of_lt h.r1)), h.z.fr hf (by have := h.r1; omega), hr, h.hg.fr hf (Ne.symm h.n1), h.own.one (hf.rest gr h.own.blk.1 (Ne.symm h.n2)), h.len, h.r1, h.r2, h.r3, h.n1, h.n2, h.n3⟩
theorem CoS.put {w : World} {R g gr n : Nat} {s : ByteArray} {st : Int} {W : World} {p : Nat} {ms : List W3} (h : CoS w R g gr n s st W p ms) (k : Nat) (hk : k < n) (x : W3) : CoS w R g gr n s st (putW W gr k x) p (ms.set k x) := by
  have hz : w.heap.size ≠ gr := by have := h.r3; omega
  refine ⟨?_, ?_, (putW_heap W gr k x R h.n2).trans h.rd, (putW_heap W gr k x g h.n3).trans h.hg, h.own.put h.len k hk x, by rw [List.length_set]; exact h.len, h.r1, h.r2, h.r3, h.n1, h.n2, h.n3⟩
  · have := h.r3
    exact ((h.bel.setCell (p := ⟨gr, k * 3, none⟩) (by simp only; omega) _).setCell (p := ⟨gr, k * 3 + 1, none⟩) (by simp only; omega) _).setCell (p := ⟨gr, k * 3 + 2, none⟩) (by simp only; omega) _
  · exact (putW_heap W gr k x _ hz).trans h.z
theorem CoS.drew {w : World} {R g gr n : Nat} {s : ByteArray} {st : Int} {W : World} {p : Nat} {ms : List W3} (h : CoS w R g gr n s st W p ms) : CoS w R g gr n s st W.drew p ms :=
  ⟨h.bel.drew, h.z, h.rd, h.hg, h.own.one rfl, h.len, h.r1, h.r2, h.r3, h.n1, h.n2, h.n3⟩
/-- What is read of the writes, when so many of them are read. -/
def restW (s : ByteArray) (done : List W3) (m p : Nat) : Option (List W3 × Nat) := match rdWs s m p with | none => none | some (l, r) => some (done ++ l, r)
theorem restW_zero (s : ByteArray) (done : List W3) (p : Nat) : restW s done 0 p = some (done, p) := by simp [restW, rdWs]
theorem restW_no {s : ByteArray} {done : List W3} {m p : Nat} (h : rdWr s p = none) : restW s done (m + 1) p = none := by simp [restW, rdWs, h]
theorem restW_yes {s : ByteArray} {done : List W3} {m p q : Nat} {v : W3} (h : rdWr s p = some (v, q)) : restW s done (m + 1) p = restW s (done ++ [v]) m q := by
  unfold restW
  conv => lhs; unfold rdWs
  rw [h]
  simp only
  cases rdWs s m q with
  | none => rfl
  | some x => obtain ⟨l, r⟩ := x; simp
/-- A row with no room behind it. -/
def FullW (v : Value) (vs : List W3) : Prop := ∃ g, v = .slice (some ⟨g, 0, none⟩) vs.length vs.length
/-- A commit is read: the commit, its writes new; or the reading gives up. -/
def CoC (w : World) (r : Option (Int × List W3)) (e : Ending) (w' : World) : Prop :=
  Below w.heap.size w w' ∧ match r with
    | some (st, vs) => ∃ v, e = .returned (.agg #[.int .u64 st, v]) ∧ ownW w' w.heap.size v vs ∧ FullW v vs
    | none => e = oops 112
theorem CoC.no {w w' : World} {r : Option (Int × List W3)} (hb : Below w.heap.size w w') (h : r = none) : CoC w r (oops 112) w' := ⟨hb, by rw [h]⟩
theorem CoS.drewN {w : World} {R g gr n : Nat} {s : ByteArray} {st : Int} {W : World} {p : Nat} {ms : List W3} (h : CoS w R g gr n s st W p ms) (q : Nat) : CoS w R g gr n s st (W.drewN q) p ms := by
  induction q with
  | zero => exact h
  | succ q ih => exact ih.drew
theorem infoCoD : (Try.prog.info? 25).map (·.size) = some 2 := by kernel_rfl
theorem ret_commitD {fn : Func} {p : Tmp} (h : fn.results = #[.cell p 25]) (tmps : Array Value) (w : World) (a b : Value) (g : Nat) (hp : tmps.getD p undef = .pointer (some ⟨g, 0, none⟩)) (hg : Wc2 w g a b) :
    (results fn tmps).run Try.prog w = .ok (.agg #[a, b]) w := by
  have hp' : tmps[p]?.getD undef = .pointer (some ⟨g, 0, none⟩) := by simpa using hp
  unfold Wc2 at hg
  simp [results, h, hp', asAddr, run_loadVar_row w g 25 25 _ (0, 0) _ hg Try.underlying25 rfl infoCoD]
end Go.Proofs.Ytmolfemcciljjaa
