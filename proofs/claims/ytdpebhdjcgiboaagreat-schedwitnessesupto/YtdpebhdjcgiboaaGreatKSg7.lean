import Derived.Test.YtdpebhdjcgiboaaGreatKSg5
namespace Go.Proofs.YtdpebhdjcgiboaaGreat
set_option linter.unusedSimpArgs false
open Go.ChangeShapes Go.WideShapes Go.ChangeAt Go.RowKit Go.MuLone Go.RwLone
set_option linter.unusedVariables false
set_option maxRecDepth 100000
set_option maxHeartbeats 3200000
/-- A bench that was laid out behind w0, in the block bb, its threads' row tv. -/
structure BnG (w0 w : World) (B : Bd) (bb hb qb : Nat) (tv : Value) (a : Hp × Ls) : Prop where
  h : ∃ F qv ev en, Hm w F B.T hb qb qv ev en a.1 ∧ (∀ y, F y → ¬ fB B y) ∧ (∀ y, F y → w0.heap.size ≤ y) ∧ ¬ F bb ∧ (∀ g, tv.ownBlock = some g → ¬ F g)
  o : Bo B w a.2
  lo : ∀ y, fB B y → w0.heap.size ≤ y
  iv : Iv B.n a.1
  be : w.heap[bb]? = some (.cells (beA B.L tv hb) 146)
  ot : OwT w 0 tv ((List.range B.n).map B.T)
  nb : ¬ fB B bb
  nt : ∀ g, tv.ownBlock = some g → ¬ fB B g
  b0 : w0.heap.size ≤ bb
  bl : Below w0.heap.size w0 w
  ol : ∀ g, tv.ownBlock = some g → w0.heap.size ≤ g
theorem own_lt {α : Type} {cs : α → List Value} {e : TypeId} {n : Nat} {w : World} {B : Nat} {v : Value} {xs : List α} (h : OwG cs e n w B v xs) {g : Nat} (hg : v.ownBlock = some g) : g < w.heap.size := (World.ownsRow.lt h g hg).2
theorem BnG.keeps {w0 w w' : World} {B : Bd} {bb hb qb : Nat} {tv : Value} {a : Hp × Ls} {D : Nat → Prop} (b : BnG w0 w B bb hb qb tv a) (k : Keeps D w w') (hF : ∀ F qv ev en, Hm w F B.T hb qb qv ev en a.1 → (∀ y, F y → w0.heap.size ≤ y) → True) (h1 : ∀ y, D y → False) : BnG w0 w' B bb hb qb tv a := by
  have k' : Keeps (fun _ => False) w w' := k.mono (fun y e => h1 y e)
  obtain ⟨F, qv, ev, en, m, d, l, nb, nt⟩ := b.h
  exact ⟨⟨F, qv, ev, en, m.still k', d, l, nb, nt⟩, b.o.far k' (fun _ e => e.elim), b.lo, b.iv, (k'.block _ (Array.getElem?_eq_some_iff.1 b.be).1 (fun e => e)).trans b.be, owK b.ot k' (fun _ _ e => e), b.nb, b.nt, b.b0, b.bl.trans (k'.below b.bl.size (fun _ _ e => e)), b.ol⟩
theorem BnG.still {w0 w w' : World} {B : Bd} {bb hb qb : Nat} {tv : Value} {a : Hp × Ls} (b : BnG w0 w B bb hb qb tv a) (k : Keeps (fun _ => False) w w') : BnG w0 w' B bb hb qb tv a := b.keeps k (fun _ _ _ _ _ _ => trivial) (fun _ e => e)
/-- The bench just laid out. -/
theorem La.bench {w0 wr : World} {M : Nat} {L : Lay} {S : AS} {bb hb qb n : Nat} {ts : Nat → List I8} {f : Nat → Bk} {tv : Value} (h : La w0 wr M L S bb hb qb n ts f n tv ((List.range n).map (fun j => (f j).T))) (wd : Nat) (h16 : n ≤ 4) (s1 : S.rc = 0) (s2 : S.n = 1) (s3 : S.use 0 = true) (s4 : S.wd = wd) (s5 : S.g0 = 0) (hw : ∀ i, i < wd → 0 ≤ S.word i ∧ S.word i < 18446744073709551616) : BnG w0 wr (bdOf L n wd ts f) bb hb qb tv (hp0 n, ⟨S.word, fun _ _ => 0, fun _ => 0⟩) := by
  have hh := h.hm
  have hq := h.qm
  have hb' := h.bm
  have hs := h.bl.size
  have hms := h.ms
  have pbm : ∀ j, j < n → M ≤ (f j).pb := fun j hj => by have := (h.ea j hj).o1; have := (h.ea j hj).o3; omega
  have typ : ∀ g, tv.ownBlock = some g → ∃ c, wr.heap[g]? = some (.cells c 31) ∧ M ≤ g := fun g hg => by
    obtain ⟨c, hc⟩ := blk h.ot hg
    exact ⟨c, hc, (World.ownsRow.lt h.ot g hg).1⟩
  refine ⟨⟨fH hb qb n f, _, _, _, h.hmem (by omega), h.dis wd, fun y hy => ?_, fun e => ?_, fun g hg e => ?_⟩, h.bo wd s1 s2 s3 s4 s5 hw, fun y hy => ?_, ?_, h.be, h.ot.down (Nat.zero_le _), fun e => ?_, fun g hg e => ?_, hb'.1, h.bl, fun g hg => by obtain ⟨c, hc, hM⟩ := typ g hg; omega⟩
  · rcases hy with e | e | ⟨j, hj, e⟩
    · omega
    · omega
    · have := pbm j hj; omega
  · rcases e with e | e | ⟨j, hj, e⟩
    · exact h.d5 e
    · exact h.d6 e
    · have := pbm j hj; omega
  · obtain ⟨c, hc, hM⟩ := typ g hg
    rcases e with e | e | ⟨j, hj, e⟩
    · omega
    · omega
    · obtain ⟨_, _, _, _, cur, h2⟩ := owG_cap (h.ea j hj).op
      exact neT hc h2 (by decide) e
  · rcases hy with e | ⟨i, hi, e | e⟩
    · exact (h.lm y e).1
    · have e' : y = (f i).T := e
      have := (h.ea i hi).o1
      omega
    · have ho := (iaOf_own (h.ea i hi).oi).2 y e
      have := ((h.ea i hi).o2 y ho).1
      omega
  · refine ⟨fun i l hi => ?_, ?_, ?_⟩
    · obtain ⟨hlt, e⟩ := List.getElem?_eq_some_iff.1 hi
      have hin : i < n := by simpa [hp0] using hlt
      have e2 : l = [(i, (i : Int), false)] := by rw [← e]; simp [hp0]
      subst e2
      exact ⟨by simp, fun x hx => by simp at hx; subst hx; exact hin⟩
    · have e : ∀ n, (((List.range n).map (fun (j : Nat) => ([(j, (j : Int), false)] : List Pq))).map wtl).sum = 2 * n := fun n => by
        induction n with
        | zero => rfl
        | succ n ih => rw [List.range_succ, List.map_append, List.map_append, List.sum_append, ih]; simp [wtl, wtp]; omega
      show 0 + wtq _ ≤ _
      unfold wtq hp0
      dsimp only
      rw [e]; omega
    · have e : ∀ n, (((List.range n).map (fun (j : Nat) => ([(j, (j : Int), false)] : List Pq))).map List.length).sum = n := fun n => by
        induction n with
        | zero => rfl
        | succ n ih => rw [List.range_succ, List.map_append, List.map_append, List.sum_append, ih]; simp
      show 0 + szq _ ≤ _
      unfold szq hp0
      dsimp only
      rw [e]; omega
  · rcases e with e | ⟨i, hi, e | e⟩
    · exact h.d3 e
    · have e' : bb = (f i).T := e
      have := (h.ea i hi).o1
      omega
    · have ho := (iaOf_own (h.ea i hi).oi).2 bb e
      have := ((h.ea i hi).o2 bb ho).1
      omega
  · obtain ⟨c, hc, hM⟩ := typ g hg
    rcases e with e | ⟨i, hi, e | e⟩
    · have := (h.lm g e).2; omega
    · exact neT hc (h.ea i hi).th (by decide) e
    · have ho := (iaOf_own (h.ea i hi).oi).2 g e
      obtain ⟨c', hc'⟩ := blk (h.ea i hi).oi ho
      exact neT hc hc' (by decide) rfl
theorem PkR.of {w : World} {Fb : Nat → Prop} {B : Nat} {v : Value} {vs : List (Int × Int × Int)} (h : ownP w B v vs) (hB : ∀ x, Fb x → x < B) (hl : vs.length ≤ 140737488355328) (hn : ∀ p ∈ vs, p.2.2 ≤ 300) : PkR w Fb v vs := by
  rcases h.2 with ⟨rfl, h0⟩ | ⟨g, cap, cur, rfl, h1, h2, h3, h4, h5, h6⟩
  · exact ⟨none, 0, by rw [h0], hl, fun p hp => by have := hn p hp; omega, fun i hi => by omega⟩
  · have lg := (Array.getElem?_eq_some_iff.1 h2).1
    have c : ∀ j, j < vs.length * 3 → w.cell? ⟨g, j, none⟩ = (cellsP vs)[j]? := fun j hj => by
      have e : w.cell? ⟨g, j, none⟩ = cur[j]? := by simp [World.cell?, h2]
      rw [e, ← h6, List.getElem?_take, if_pos hj, Array.getElem?_toList]
    refine ⟨some ⟨g, 0, none⟩, cap, rfl, hl, fun p hp => by have := hn p hp; omega, fun i hi => ⟨g, 0, rfl, fun e => by have := hB g e; omega, lg, ?_, ?_, ?_⟩⟩
    all_goals
      have e := cellsP_get vs i hi
      rw [Nat.zero_add]
    · rw [c _ (by omega)]; exact e.1
    · rw [c _ (by omega)]; exact e.2.1
    · rw [c _ (by omega)]; exact e.2.2
def retI (b : Bool) (l bd : Nat) : Int := if b then (bd : Int) - (l : Int) else (bd : Int)
end Go.Proofs.YtdpebhdjcgiboaaGreat

namespace Go.Proofs.YtdpebhdjcgiboaaGreat
set_option linter.unusedSimpArgs false
open Go.ChangeShapes Go.WideShapes Go.ChangeAt Go.RowKit Go.MuLone Go.RwLone
set_option linter.unusedVariables false
set_option maxRecDepth 100000
set_option maxHeartbeats 3200000
/-- The registers of t threads. -/
def regsL (rg : Nat → Nat → Int) (t : Nat) : List Int := (List.range t).flatMap (fun i => [rg i 0, rg i 1, rg i 2, rg i 3])
theorem regsL_len (rg : Nat → Nat → Int) (t : Nat) : (regsL rg t).length = 4 * t := by
  induction t with
  | zero => rfl
  | succ t ih =>
    unfold regsL at ih ⊢
    rw [List.range_succ, List.flatMap_append, List.length_append, ih]
    simp; omega
theorem regsL_succ (rg : Nat → Nat → Int) (t : Nat) : regsL rg (t + 1) = regsL rg t ++ [rg t 0, rg t 1, rg t 2, rg t 3] := by
  unfold regsL
  rw [List.range_succ, List.flatMap_append]
  simp
theorem regs_in {w : World} {T : Nat} {L : Lay} {ia : Option Addr} {m cap : Nat} {rg : Nat → Int} {pl : Nat} (h : Tg w T L ia m cap rg pl) : InG wdC w w.heap.size (.slice (some ⟨T, 3, none⟩) 4 4) [rg 0, rg 1, rg 2, rg 3] := by
  refine ⟨some ⟨T, 3, none⟩, 4, rfl, Nat.le_refl _, (fun e => by cases e), fun j u hj => ⟨T, 3, rfl, h.lt, ?_⟩⟩
  have hlt := (List.getElem?_eq_some_iff.1 hj).1
  have hl : ([rg 0, rg 1, rg 2, rg 3].flatMap wdC).length = 4 := rfl
  have : j = 0 ∨ j = 1 ∨ j = 2 ∨ j = 3 := by omega
  rcases this with rfl | rfl | rfl | rfl
  · exact (h.r 0 (by decide)).trans hj
  · exact (h.r 1 (by decide)).trans hj
  · exact (h.r 2 (by decide)).trans hj
  · exact (h.r 3 (by decide)).trans hj
abbrev zoW (w : World) : World := (w.alloc (.cells #[.slice none 0 0, .slice none 0 0] 51)).alloc (.cells #[.slice none 0 0, .slice none 0 0] 51)
def wlL (wo : Nat → Int) (wd : Nat) : List Int := (List.range wd).map wo
abbrev OwW (w : World) (B : Nat) (v : Value) (xs : List Int) : Prop := OwG wdC 55 1 w B v xs
theorem flat_wd (l : List Int) : l.flatMap wdC = l.map (Value.int .u64) := by
  induction l with
  | nil => rfl
  | cons a l ih => rw [List.flatMap_cons, ih]; rfl
theorem PeekS.own {w : World} {L : Lay} {S : AS} {g : Nat} {wr : World} (h : PeekS w L S 0 g S.wd wr) : OwW wr w.heap.size (.slice (some ⟨g, 0, none⟩) S.wd S.wd) (wlL S.word S.wd) := by
  obtain ⟨c, hc, hs⟩ := h.ty
  have hl : (wlL S.word S.wd).length = S.wd := by simp [wlL]
  refine ⟨by rw [flat_wd, List.length_map, hl]; omega, .inr ⟨g, S.wd, c, by rw [hl], h.g0, hc, by rw [hl]; exact Nat.le_refl _, by have := h.h.hw.2; unfold maxLen; omega, by omega, ?_⟩⟩
  rw [hl, flat_wd, Nat.mul_one]
  apply List.ext_getElem?
  intro i
  rw [List.getElem?_take]
  by_cases hi : i < S.wd
  · rw [if_pos hi, Array.getElem?_toList, List.getElem?_map]
    have := h.lo i hi
    rw [cell?_heap hc] at this
    rw [this]
    simp [wlL, hi]
  · rw [if_neg hi, List.getElem?_eq_none (by simp [wlL]; omega)]
/-- What Outcome reads, behind Peek. -/
structure Ob (w wb : World) (B : Bd) (bb hb qb gt ct : Nat) (a : Hp × Ls) (g : Nat) : Prop where
  hm : ∃ F qv ev en, Hm wb F B.T hb qb qv ev en a.1 ∧ ∀ y, F y → y < w.heap.size
  th : ∀ i, i < B.n → Tg wb (B.T i) B.L (B.ia i) (B.ins i).length (B.cap i) (a.2.rg i) (a.2.pl i) ∧ B.T i < w.heap.size
  be : wb.heap[bb]? = some (.cells (beA B.L (.slice (some ⟨gt, 0, none⟩) B.n ct) hb) 146)
  bl : bb < w.heap.size
  ot : OwT wb 0 (.slice (some ⟨gt, 0, none⟩) B.n ct) ((List.range B.n).map B.T)
  gl : gt < w.heap.size
  ow : OwW wb (w.heap.size + 2) (.slice (some ⟨g, 0, none⟩) B.wd B.wd) (wlL a.2.wo B.wd)
  rb : wb.heap[w.heap.size]? = some (.cells #[.slice none 0 0, .slice none 0 0] 51)
  ob : wb.heap[w.heap.size + 1]? = some (.cells #[.slice (some ⟨g, 0, none⟩) B.wd B.wd, .slice none 0 0] 51)
  sz : w.heap.size + 2 ≤ wb.heap.size
  k : Keeps (fun x => B.L.has x ∨ w.heap.size ≤ x) w wb
  o : Bo B wb a.2
  fl : ∀ x, fB B x → x < w.heap.size
/-- In the midst of Outcome: t threads' registers are taken. -/
structure Oc (w wb wr : World) (wd : Nat) (rg : Nat → Nat → Int) (g t : Nat) (rv : Value) : Prop where
  k : Keeps (fun x => x = w.heap.size + 1) wb wr
  ob : wr.heap[w.heap.size + 1]? = some (.cells #[.slice (some ⟨g, 0, none⟩) wd wd, rv] 51)
  ow : OwW wr wb.heap.size rv (regsL rg t)
theorem Oc.app {w wb wr w5 : World} {wd : Nat} {rg : Nat → Nat → Int} {g t : Nat} {rv v' : Value} {xs : List Int} (h : Oc w wb wr wd rg g t rv) (hb : Below wb.heap.size wr w5) (ho : OwW w5 wb.heap.size v' xs) (hx : xs = regsL rg (t + 1)) (hz : w.heap.size + 1 < wb.heap.size) :
    Oc w wb (w5.setCell ⟨w.heap.size + 1, 1, none⟩ v') wd rg g (t + 1) v' ∧ w5.cell? ⟨w.heap.size + 1, 1, none⟩ = some rv ∧ w5.frozen? ⟨w.heap.size + 1, 1, none⟩ = false := by
  subst hx
  have eo := (hb.block _ hz).trans h.ob
  have k5 : Keeps (fun x => x = w.heap.size + 1) wb w5 := ⟨hb.os.trans h.k.os, hb.tape.trans h.k.tape, hb.output.trans h.k.output, Nat.le_trans h.k.size hb.size, fun x hx hn => (hb.block x hx).trans (h.k.block x hx hn)⟩
  exact ⟨⟨k5.setCell (p := ⟨w.heap.size + 1, 1, none⟩) rfl _, by simp [World.setCell, Array.getElem?_modify, eo], ho.set (p := ⟨w.heap.size + 1, 1, none⟩) hz _⟩, (cell?_heap eo 1).trans rfl, frozen?_heap eo 1⟩
theorem infoW8 : (Tryz.prog.info? 55).map (fun i => (i.zero, i.size, i.bytes)) = some (some (.int .u64 0), 1, 8) := by kernel_rfl
theorem results_row_tmp {P : Program} {fn : Func} {p : Tmp} {ty : TypeId} {q : Tmp} (h : fn.results = #[.cell p ty, .tmp q]) (tmps : Array Value) (w : World) (g : Nat) (t : TypeId) (cs : Array Value) (fr : Nat × Nat) (d : TypeDesc)
    (hp : tmps.getD p undef = .pointer (some ⟨g, 0, none⟩)) (hg : w.heap[g]? = some (.cells cs t fr))
    (hu : P.underlying ty = some d) (hd : (match d with | .struct _ | .array _ _ => true | _ => false) = true) (hi : (P.info? ty).map (·.size) = some cs.size) :
    (results fn tmps).run P w = .ok (.tuple #[.agg cs, tmps.getD q undef]) w := by
  have hp' : tmps[p]?.getD undef = .pointer (some ⟨g, 0, none⟩) := by simpa using hp
  simp [results, h, hp', asAddr, run_loadVar_row w g t ty cs fr d hg hu hd hi]
theorem Ob.start {w0 w w1 : World} {B : Bd} (hB : BdOk B) {bb hb qb gt ct : Nat} {a : Hp × Ls} {S : AS} {g : Nat} (b : BnG w0 w B bb hb qb (.slice (some ⟨gt, 0, none⟩) B.n ct) a) (s1 : S.word = a.2.wo) (s4 : S.wd = B.wd) (s2 : S.n = 1) (s3 : S.use 0 = true) (hp : PeekS (zoW w).drew B.L { S with g0 := 0, rc := 0 } 0 g S.wd w1) :
    Ob w (w1.setCell ⟨w.heap.size + 1, 0, none⟩ (.slice (some ⟨g, 0, none⟩) B.wd B.wd)) B bb hb qb gt ct a g ∧ w1.cell? ⟨w.heap.size + 1, 0, none⟩ = some (.slice none 0 0) ∧ w1.frozen? ⟨w.heap.size + 1, 0, none⟩ = false ∧ w1.heap[bb]? = some (.cells (beA B.L (.slice (some ⟨gt, 0, none⟩) B.n ct) hb) 146) := by
  have sz : (zoW w).heap.size = w.heap.size + 2 := by rw [szAl, szAl]
  have kz : Keeps (fun _ => False) w (zoW w).drew := (((Keeps.refl _ _).alloc _).alloc _).drew
  have k1 : Keeps B.L.has w w1 := (kz.mono (fun _ e => e.elim)).trans hp.kp
  have nL : ∀ x, w.heap.size ≤ x → ¬ B.L.has x := fun x hx e => by have := b.o.lt (.inl e); omega
  have er : w1.heap[w.heap.size]? = some (.cells #[.slice none 0 0, .slice none 0 0] 51) := (hp.kp.block _ (by show w.heap.size < (zoW w).heap.size; omega) (nL _ (Nat.le_refl _))).trans ((Below.heap_alloc _ _ _ (by rw [szAl]; omega)).trans (heap_alloc_last _ _ _ rfl))
  have eo : w1.heap[w.heap.size + 1]? = some (.cells #[.slice none 0 0, .slice none 0 0] 51) := (hp.kp.block _ (by show w.heap.size + 1 < (zoW w).heap.size; omega) (nL _ (by omega))).trans (heap_alloc_last _ _ _ (szAl _ _).symm)
  have gm0 : (zoW w).heap.size ≤ g := hp.g0
  have ow1 : OwW w1 (w.heap.size + 2) (.slice (some ⟨g, 0, none⟩) B.wd B.wd) (wlL a.2.wo B.wd) := by
    have := hp.own
    rw [show ({ S with g0 := 0, rc := 0 } : AS).wd = B.wd from s4, show ({ S with g0 := 0, rc := 0 } : AS).word = a.2.wo from s1] at this
    exact this.down (by show w.heap.size + 2 ≤ (zoW w).heap.size; omega)
  have hz2 : (zoW w).heap.size ≤ w1.heap.size := hp.kp.size
  have ks : Keeps (fun x => x = w.heap.size + 1) w1 (w1.setCell ⟨w.heap.size + 1, 0, none⟩ (.slice (some ⟨g, 0, none⟩) B.wd B.wd)) := Keeps.setCell (B := fun x => x = w.heap.size + 1) (Keeps.refl _ _) rfl _
  have kw : Keeps (fun x => B.L.has x ∨ w.heap.size ≤ x) w (w1.setCell ⟨w.heap.size + 1, 0, none⟩ (.slice (some ⟨g, 0, none⟩) B.wd B.wd)) := (k1.mono (fun _ e => .inl e)).trans (ks.mono (fun x e => .inr (by omega)))
  obtain ⟨F, qv, ev, en, m, d, l, nb, nt⟩ := b.h
  have lb := (Array.getElem?_eq_some_iff.1 b.be).1
  have lg := own_lt b.ot (g := gt) rfl
  refine ⟨⟨⟨F, qv, ev, en, m.keeps kw (fun y hy hF => hy.elim (fun e => d y hF (.inl e)) (fun e => by have := m.lt y hF; omega)), m.lt⟩, fun i hi => ⟨(b.o.th i hi).keeps kw (fun e => e.elim (hB.lT i hi) (fun e => by have := (b.o.th i hi).lt; omega)), (b.o.th i hi).lt⟩, (kw.block bb lb (fun e => e.elim (fun e => b.nb (.inl e)) (fun e => by omega))).trans b.be, lb, owK b.ot kw (fun g' hg e => e.elim (fun e => b.nt g' hg (.inl e)) (fun e => by have := own_lt b.ot hg; omega)), lg, ow1.set (p := ⟨w.heap.size + 1, 0, none⟩) (by show w.heap.size + 1 < w.heap.size + 2; omega) _, (Below.heap_setCell _ _ _ _ (by show w.heap.size ≠ w.heap.size + 1; omega)).trans er, by simp [World.setCell, Array.getElem?_modify, eo], by simp; omega, kw, ⟨⟨{ S with g0 := 0, rc := 0 }, hp.h.keeps ks (fun x hx e => nL x (by omega) hx), s1, rfl, s2, s3, s4, rfl⟩, b.o.wb, fun i hi => (b.o.th i hi).keeps kw (fun e => e.elim (hB.lT i hi) (fun e => by have := (b.o.th i hi).lt; omega)), fun i hi => (b.o.ro i hi).keeps kw (fun ib e e' => e'.elim (hB.li i ib hi e).1 (fun e' => by have := b.o.il i ib hi e; omega)), fun i ib hi e => Nat.lt_of_lt_of_le (b.o.il i ib hi e) kw.size⟩, fun x hx => b.o.lt hx⟩, (cell?_heap eo 0).trans rfl, frozen?_heap eo 0, (k1.block bb lb (fun e => b.nb (.inl e))).trans b.be⟩
abbrev oeW (wr : World) (r : Nat) (x y : Value) : World := ((wr.setCell ⟨r, 0, none⟩ x).setCell ⟨r, 1, none⟩ y).drew
theorem Oc.last {w wb wr : World} {B : Bd} {bb hb qb gt ct : Nat} {a : Hp × Ls} {g : Nat} {rv : Value} (h : Ob w wb B bb hb qb gt ct a g) (ho : Oc w wb wr B.wd a.2.rg g B.n rv) :
    (oeW wr w.heap.size (.slice (some ⟨g, 0, none⟩) B.wd B.wd) rv).heap[w.heap.size]? = some (.cells #[.slice (some ⟨g, 0, none⟩) B.wd B.wd, rv] 51) ∧ OwW (oeW wr w.heap.size (.slice (some ⟨g, 0, none⟩) B.wd B.wd) rv) w.heap.size (.slice (some ⟨g, 0, none⟩) B.wd B.wd) (wlL a.2.wo B.wd) ∧ OwW (oeW wr w.heap.size (.slice (some ⟨g, 0, none⟩) B.wd B.wd) rv) (g + 1) rv (regsL a.2.rg B.n) ∧ Keeps B.L.has w (oeW wr w.heap.size (.slice (some ⟨g, 0, none⟩) B.wd B.wd) rv) ∧ (oeW wr w.heap.size (.slice (some ⟨g, 0, none⟩) B.wd B.wd) rv).heap[w.heap.size + 1]? = some (.cells #[.slice (some ⟨g, 0, none⟩) B.wd B.wd, rv] 51) ∧ (oeW wr w.heap.size (.slice (some ⟨g, 0, none⟩) B.wd B.wd) rv).heap[bb]? = some (.cells (beA B.L (.slice (some ⟨gt, 0, none⟩) B.n ct) hb) 146) ∧ Bo B (oeW wr w.heap.size (.slice (some ⟨g, 0, none⟩) B.wd B.wd) rv) a.2 := by
  have hsz := h.sz
  have lg := own_lt h.ow (g := g) rfl
  have er : wr.heap[w.heap.size]? = some (.cells #[.slice none 0 0, .slice none 0 0] 51) := (ho.k.block _ (Array.getElem?_eq_some_iff.1 h.rb).1 (by show ¬ w.heap.size = w.heap.size + 1; omega)).trans h.rb
  have kr : Keeps (fun x => x = w.heap.size) wr (oeW wr w.heap.size (.slice (some ⟨g, 0, none⟩) B.wd B.wd) rv) := ((Keeps.setCell (B := fun x => x = w.heap.size) (Keeps.refl _ _) rfl _).setCell rfl _).drew
  have hg2 := (World.ownsRow.lt h.ow g rfl).1
  refine ⟨?_, ((owK (owK h.ow ho.k (fun g' hg e => by have := (World.ownsRow.lt h.ow g' hg).1; omega)) kr (fun g' hg e => by have := (World.ownsRow.lt h.ow g' hg).1; omega)).down (by omega)), (owK ho.ow kr (fun g' hg e => by have := (World.ownsRow.lt ho.ow g' hg).1; omega)).down (by omega), ?_, (kr.block _ (Array.getElem?_eq_some_iff.1 ho.ob).1 (by show ¬ w.heap.size + 1 = w.heap.size; omega)).trans ho.ob, ?_, (h.o.far ho.k (fun x e hx => by have := h.fl x hx; omega)).far kr (fun x e hx => by have := h.fl x hx; omega)⟩
  · show ((wr.setCell ⟨w.heap.size, 0, none⟩ (.slice (some ⟨g, 0, none⟩) B.wd B.wd)).setCell ⟨w.heap.size, 1, none⟩ rv).heap[w.heap.size]? = _
    simp [World.setCell, Array.getElem?_modify, er]
  · have k2 : Keeps (fun x => B.L.has x ∨ w.heap.size ≤ x) w (oeW wr w.heap.size (.slice (some ⟨g, 0, none⟩) B.wd B.wd) rv) := (h.k.trans (ho.k.mono (fun x e => .inr (by omega)))).trans (kr.mono (fun x e => .inr (by omega)))
    exact k2.thin
  · have := h.bl
    exact (kr.block bb (by have := ho.k.size; omega) (by show ¬ bb = w.heap.size; omega)).trans ((ho.k.block bb (by omega) (by show ¬ bb = w.heap.size + 1; omega)).trans h.be)
theorem outcomeG (w0 w : World) (B : Bd) (hB : BdOk B) (bb hb qb : Nat) (tv : Value) (a : Hp × Ls) (b : BnG w0 w B bb hb qb tv a) (hn4 : 1 ≤ B.n ∧ B.n ≤ 4) :
    Calls Tryz.prog 80 #[.pointer (some ⟨bb, 0, none⟩)] w fun e w' => ∃ g rv, e = .returned (.tuple #[.agg #[.slice (some ⟨g, 0, none⟩) B.wd B.wd, rv], .bool (idleP a.1)]) ∧ OwW w' w.heap.size (.slice (some ⟨g, 0, none⟩) B.wd B.wd) (wlL a.2.wo B.wd) ∧ OwW w' (g + 1) rv (regsL a.2.rg B.n) ∧ Keeps B.L.has w w' ∧ Bo B w' a.2 := by
  obtain ⟨S, hS, s1, s2, s3, s4, s5, s6⟩ := b.o.ar
  obtain ⟨gt, ct, htv, -, -⟩ := owG_some b.ot (by intro e; have := congrArg List.length e; simp at this; omega)
  rw [List.length_map, List.length_range] at htv
  subst htv
  have HF : Hid (BnG w0 w B bb hb qb (.slice (some ⟨gt, 0, none⟩) B.n ct) a ∧ S.word = a.2.wo ∧ S.wd = B.wd ∧ S.n = 1 ∧ S.use 0 = true) := ⟨b, s1, s5, s3, s4⟩
  have HZ : Hid (Holds (zoW w) B.L S) := (hS.alloc _).alloc _
  have HS2 : Hid (S.g0 = 0 ∧ S.rc = 0 ∧ 0 < S.n ∧ S.use 0 = true ∧ S.wd = B.wd) := ⟨s6, s2, by omega, s4, s5⟩
  have HC : (zoW w).heap[bb]? = some (.cells (beA B.L (.slice (some ⟨gt, 0, none⟩) B.n ct) hb) 146) := ((((Keeps.refl (fun _ => False) w).alloc _).alloc _).block bb (Array.getElem?_eq_some_iff.1 b.be).1 (fun e => e)).trans b.be
  clear b hS s1 s2 s3 s4 s5 s6
  go_enter Tryz.func80, Tryz.ntmps80
  go_wp2_with fail
  (refine wp_region_held_drew (S := (fun W => W.cell? ⟨bb, 0, none⟩ = some (.pointer (some ⟨B.L.b, 0, none⟩)) ∧ W.cell? ⟨bb, 1, none⟩ = some (.int .i64 1))) (by kernel_rfl) ⟨(cell?_heap HC 0).trans rfl, (cell?_heap HC 1).trans rfl⟩ (fun hHeld => ?_); simp only [List.size_toArray, List.length_cons, List.length_nil, Nat.reduceAdd, Array.replicate_succ, Array.replicate_zero, List.push_toArray, List.append_toArray, List.nil_append, List.cons_append])
  clear HC
  refine rgT 0 (h := ?_)
  refine rgT 1 (h := ?_)
  refine rgT 2 (h := ?_)
  refine rgT 3 (h := ?_)
  refine rgT 4 (h := ?_)
  refine rgT 5 (h := ?_)
  refine rgT 6 (h := ?_)
  refine rgT 7 (h := ?_)
  refine rgT 8 (h := ?_)
  refine rgT 9 (h := ?_)
  (refine rgS 10 (h := fun K hK => ?_); go_simp)
  refine (peek_ok B.L S (zoW w).drew 0 HZ.out.drew HS2.out.1 HS2.out.2.1 HS2.out.2.2.1 HS2.out.2.2.2.1).mono ?_
  rintro e w1 ⟨g, rfl, hp⟩
  obtain ⟨ob, cO, fO, lb1⟩ := Ob.start hB HF.out.1 HF.out.2.1 HF.out.2.2.1 HF.out.2.2.2.1 HF.out.2.2.2.2 hp
  have HO : Hid (Ob w (w1.setCell ⟨w.heap.size + 1, 0, none⟩ (.slice (some ⟨g, 0, none⟩) B.wd B.wd)) B bb hb qb gt ct a g) := ob
  rw [HS2.out.2.2.2.2]
  clear hp ob HZ HF HS2
  (refine hK.out _ _ ⟨(cell?_heap lb1 0).trans rfl, (cell?_heap lb1 1).trans rfl⟩ (fun hHeld => ?_); clear hK K; try simp only [Act.put, List.setIfInBounds_toArray, List.set_cons_zero, List.set_cons_succ])
  clear lb1
  refine rgT 11 (h := ?_)
  refine rgT 12 (h := ?_)
  refine rgT 13 (h := ?_)
  refine rgT 14 (h := ?_)
  (refine rgS 15 (h := fun K hK => ?_); go_simp)
  have HC1 := HO.out.be
  (refine hK.out _ _ ⟨(cell?_heap HC1 0).trans rfl, (cell?_heap HC1 1).trans rfl⟩ (fun hHeld => ?_); clear hK K; try simp only [Act.put, List.setIfInBounds_toArray, List.set_cons_zero, List.set_cons_succ])
  refine wpAnyH_done (by kernel_rfl) ?_ _
  have c2 := (cell?_heap HC1 2).trans rfl
  clear cO fO HC1
  generalize w1.setCell ⟨w.heap.size + 1, 0, none⟩ (.slice (some ⟨g, 0, none⟩) B.wd B.wd) = wb at *
  go_wp2_with fail
  clear c2
  go_loopw [30] (fun c wr => ∃ (t : Nat) (rv : Value), c = .int .i64 t ∧ t ≤ B.n ∧ Oc w wb wr B.wd a.2.rg g t rv) (fun c _ => B.n - (intOf c).toNat)
  case atStart => exact ⟨0, .slice none 0 0, rfl, by omega, Keeps.refl _ _, HO.out.ob, OwG.nil _ _ _ _ _⟩
  case round =>
    obtain ⟨t, rv, rfl, ht, hoc⟩ := hrel
    have HQ : Hid (Oc w wb wr B.wd a.2.rg g t rv) := hoc
    clear hoc
    by_cases h5 : t < B.n
    · have t0 : (0 : Int) ≤ (t : Int) := Int.natCast_nonneg _
      have t1 : (t : Int) < (B.n : Int) := by omega
      have cT : wr.cell? ⟨gt, t, none⟩ = some (.pointer (some ⟨B.T t, 0, none⟩)) := by
        have hgl := HO.out.gl
        have hsz := HO.out.sz
        rw [HQ.out.k.cell (p := ⟨gt, t, none⟩) (by show gt < _; omega) (by show ¬ gt = _; omega)]
        have o := HO.out.ot
        have : OwG thC 31 1 wb 0 (.slice (some ⟨gt, 0, none⟩) ((List.range B.n).map B.T).length ct) ((List.range B.n).map B.T) := by rw [List.length_map, List.length_range]; exact o
        rw [World.ownsRow.cellAt this t (by simpa using h5)]
        have := flat_get thC 1 (fun _ => rfl) ((List.range B.n).map B.T) t (by simpa using h5) 0 (by decide)
        rw [Nat.mul_one, Nat.add_zero] at this
        rw [this]
        simp [thC]
      have HT : Hid (Tg wr.drew (B.T t) B.L (B.ia t) (B.ins t).length (B.cap t) (a.2.rg t) (a.2.pl t)) := ((HO.out.th t h5).1.keeps HQ.out.k (by have := (HO.out.th t h5).2; show ¬ B.T t = _; omega)).keeps (Keeps.refl (fun _ => False) _).drew (fun e => e)
      obtain ⟨ra, rc, hrv⟩ := HQ.out.ow.form
      subst hrv
      have cR : wr.drew.cell? ⟨w.heap.size + 1, 1, none⟩ = some (.slice ra (regsL a.2.rg t).length rc) := (cell?_heap HQ.out.ob 1).trans rfl
      have hle : (regsL a.2.rg t).length ≤ 16 := by rw [regsL_len]; omega
      have HE : Hid (regsL a.2.rg t ++ [a.2.rg t 0, a.2.rg t 1, a.2.rg t 2, a.2.rg t 3] = regsL a.2.rg (t + 1)) := (regsL_succ a.2.rg t).symm
      have HW8 : Hid (OwW wr.drew wb.heap.size (.slice ra (regsL a.2.rg t).length rc) (regsL a.2.rg t)) := HQ.out.ow.later (Below.refl _ _).drew
      have HZ1 : Hid (w.heap.size + 1 < wb.heap.size) := by have := HO.out.sz; show _ < _; omega
      have HQ2 : Hid (Oc w wb wr.drew B.wd a.2.rg g t (.slice ra (regsL a.2.rg t).length rc)) := ⟨HQ.out.k.drew, HQ.out.ob, HW8.out⟩
      have hks : wb.heap.size ≤ wr.drew.heap.size := HQ.out.k.size
      clear HQ
      generalize regsL a.2.rg t = xs at *
      go_wp2_with fail
      clear cT
      (refine wp_region_held_drew (S := (fun _ => True)) (by kernel_rfl) trivial (fun hHeld => ?_); simp only [List.size_toArray, List.length_cons, List.length_nil, Nat.reduceAdd, Array.replicate_succ, Array.replicate_zero, List.push_toArray, List.append_toArray, List.nil_append, List.cons_append])
      refine rgT 0 (h := ?_)
      refine rgT 2 (h := ?_)
      refine rgT 3 (h := ?_)
      refine rgT 4 (h := ?_)
      refine rgT 5 (h := ?_)
      (refine rgS 1 (h := fun K hK => ?_); go_simp)
      (refine hK.out _ _ trivial (fun hHeld => ?_); clear hK K; try simp only [Act.put, List.setIfInBounds_toArray, List.set_cons_zero, List.set_cons_succ])
      clear cR
      (refine rgS 6 (h := fun K hK => ?_); rw [if_pos (by rfl)])
      refine app_more_wp (cs := wdC) (.tmp 35) (.tmp 39) 46 55 (by rfl) Tryz.underlying46 infoW8 rfl (by decide) (fun _ => rfl) wb.heap.size _ xs HW8.out (by rfl) _ ⟨B.T t, 3, none⟩ 4 4 [a.2.rg t 0, a.2.rg t 1, a.2.rg t 2, a.2.rg t 3] (by rfl) (regs_in HT.out) (fun y _ u hu => by simp [wdC] at hu; subst hu; rfl) (by unfold maxLen; simp; omega) (by simp; omega) hks ?_
      intro v' w5 ho hbl hkp
      rw [HE.out] at ho
      obtain ⟨va, vc, rfl⟩ := ho.form
      obtain ⟨oc5, cO5, fO5⟩ := HQ2.out.app hbl ho rfl HZ1.out
      obtain ⟨mm, hmm⟩ : ∃ mm, (regsL a.2.rg (t + 1)).length = mm := ⟨_, rfl⟩
      rw [hmm] at oc5 ⊢
      have H5 : Hid (Oc w wb (w5.setCell ⟨w.heap.size + 1, 1, none⟩ (.slice va mm vc)) B.wd a.2.rg g (t + 1) (.slice va mm vc)) := oc5
      clear hmm oc5 ho hbl hkp HQ2 HW8 HE HT
      (refine hK.out _ _ trivial (fun hHeld => ?_); clear hK K; try simp only [Act.put, List.setIfInBounds_toArray, List.set_cons_zero, List.set_cons_succ])
      refine rgT 7 (h := ?_)
      (refine rgS 8 (h := fun K hK => ?_); go_simp)
      (refine hK.out _ _ trivial (fun hHeld => ?_); clear hK K; try simp only [Act.put, List.setIfInBounds_toArray, List.set_cons_zero, List.set_cons_succ])
      refine wpAnyH_done (by kernel_rfl) ?_ _
      clear cO5 fO5
      go_wp2
      go_roundw
      case rel => exact ⟨t + 1, _, by go_num, by omega, H5.out⟩
      case measure => simp [intOf]; omega
    · have hteq : t = B.n := by omega
      subst hteq
      obtain ⟨ra, rc, hrv⟩ := HQ.out.ow.form
      subst hrv
      have hbl := HO.out.bl
      have hsz := HO.out.sz
      have HC3 : wr.heap[bb]? = some (.cells (beA B.L (.slice (some ⟨gt, 0, none⟩) B.n ct) hb) 146) := (HQ.out.k.block bb (by omega) (by show ¬ bb = _; omega)).trans HO.out.be
      have HOb := HQ.out.ob
      have HR : wr.heap[w.heap.size]? = some (.cells #[.slice none 0 0, .slice none 0 0] 51) := (HQ.out.k.block _ (Array.getElem?_eq_some_iff.1 HO.out.rb).1 (by show ¬ w.heap.size = w.heap.size + 1; omega)).trans HO.out.rb
      have r0 := (cell?_heap HR 0).trans rfl
      have r1 := (cell?_heap HR 1).trans rfl
      have f0 := frozen?_heap HR 0
      have f1 := frozen?_heap HR 1
      obtain ⟨mm, hmm⟩ : ∃ mm, (regsL a.2.rg B.n).length = mm := ⟨_, rfl⟩
      rw [hmm] at HOb
      obtain ⟨F, qv, ev, en, m, hFl⟩ := HO.out.hm
      have HH : Hid (Hm wr.drew F B.T hb qb qv ev en a.1) := (m.keeps HQ.out.k (fun y e hF => by have := hFl y hF; omega)).still (Keeps.refl _ _).drew
      clear m hFl
      go_wp2_with fail
      (refine wp_region_held_drew (S := (fun W => W.cell? ⟨bb, 3, none⟩ = some (.pointer (some ⟨hb, 0, none⟩)) ∧ W.cell? ⟨w.heap.size + 1, 0, none⟩ = some (.slice (some ⟨g, 0, none⟩) B.wd B.wd) ∧ W.cell? ⟨w.heap.size + 1, 1, none⟩ = some (.slice ra mm rc))) (by kernel_rfl) ⟨(cell?_heap HC3 3).trans rfl, (cell?_heap HOb 0).trans rfl, (cell?_heap HOb 1).trans rfl⟩ (fun hHeld => ?_); simp only [List.size_toArray, List.length_cons, List.length_nil, Nat.reduceAdd, Array.replicate_succ, Array.replicate_zero, List.push_toArray, List.append_toArray, List.nil_append, List.cons_append])
      refine rgT 0 (h := ?_)
      refine rgT 1 (h := ?_)
      refine rgT 2 (h := ?_)
      refine rgT 3 (h := ?_)
      refine rgT 4 (h := ?_)
      (refine rgS 5 (h := fun K hK => ?_); go_simp)
      refine (hidle_any HH.out).mono ?_
      rintro e w6 ⟨rfl, rfl⟩
      (refine hK.out _ _ ⟨(cell?_heap HC3 3).trans rfl, (cell?_heap HOb 0).trans rfl, (cell?_heap HOb 1).trans rfl⟩ (fun hHeld => ?_); clear hK K; try simp only [Act.put, List.setIfInBounds_toArray, List.set_cons_zero, List.set_cons_succ])
      have r0' : wr.drew.cell? ⟨w.heap.size, 0, none⟩ = some (.slice none 0 0) := r0
      have r1' : wr.drew.cell? ⟨w.heap.size, 1, none⟩ = some (.slice none 0 0) := r1
      (refine rgS 6 (h := fun K hK => ?_); go_simp)
      obtain ⟨z1, z2, z3, z4, z5, z6, z7⟩ := Oc.last HO.out HQ.out
      rw [hmm] at z1 z2 z3 z4 z5 z6 z7
      have HX : Hid (OwW (oeW wr w.heap.size (.slice (some ⟨g, 0, none⟩) B.wd B.wd) (.slice ra mm rc)) w.heap.size (.slice (some ⟨g, 0, none⟩) B.wd B.wd) (wlL a.2.wo B.wd) ∧ OwW (oeW wr w.heap.size (.slice (some ⟨g, 0, none⟩) B.wd B.wd) (.slice ra mm rc)) (g + 1) (.slice ra mm rc) (regsL a.2.rg B.n) ∧ Keeps B.L.has w (oeW wr w.heap.size (.slice (some ⟨g, 0, none⟩) B.wd B.wd) (.slice ra mm rc)) ∧ Bo B (oeW wr w.heap.size (.slice (some ⟨g, 0, none⟩) B.wd B.wd) (.slice ra mm rc)) a.2) := ⟨z2, z3, z4, z7⟩
      (refine hK.out _ _ ⟨(cell?_heap z6 3).trans rfl, (cell?_heap z5 0).trans rfl, (cell?_heap z5 1).trans rfl⟩ (fun hHeld => ?_); clear hK K; try simp only [Act.put, List.setIfInBounds_toArray, List.set_cons_zero, List.set_cons_succ])
      refine rgT 7 (h := ?_)
      refine wpAnyH_done (by kernel_rfl) ?_ _
      go_wp2
      exact bodyPost_ret (results_row_tmp (p := 2) (ty := 51) (q := 3) rfl _ _ w.heap.size 51 _ (0, 0) _ rfl z1 Tryz.underlying51 rfl (by kernel_rfl)) rfl ⟨g, _, rfl, HX.out⟩
end Go.Proofs.YtdpebhdjcgiboaaGreat
