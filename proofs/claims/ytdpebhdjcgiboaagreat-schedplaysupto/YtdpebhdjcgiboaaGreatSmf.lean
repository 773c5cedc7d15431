import Derived.Test.YtdpebhdjcgiboaaGreatSk4
import Derived.Test.YtdpebhdjcgiboaaGreatSme
namespace Go.Proofs.YtdpebhdjcgiboaaGreat
open Go.ChangeShapes Go.WideShapes Go.ChangeAt Go.RowKit Go.MuLone Go.RwLone
set_option linter.unusedVariables false
set_option maxRecDepth 100000
set_option maxHeartbeats 6400000
def outE (cs : List Int) (tl : List (List I8)) : Int := if soundP cs tl = true then 0 else 35
theorem below_keeps {w w' : World} (b : Below w.heap.size w w') : Keeps (fun _ => False) w w' := ⟨b.os, b.tape, b.output, b.size, fun x hx _ => b.block x hx⟩
/-- What the program's Lay answers; the document's. -/
def LayP (w : World) (G : Nat → Prop) (o : Option Addr) (cs : List Int) (ts : List (List I8)) : Prop :=
  (soundP cs ts = false ∧ o = none) ∨ (soundP cs ts = true ∧ ∃ B bb hb qb tv, o = some ⟨bb, 0, none⟩ ∧ BdOk B ∧ B.n = ts.length ∧ B.wd = cs.length ∧ B.ins = insL ts ∧ BnF w G B bb hb qb tv (begA cs ts))
def LayR (w : World) (H : Nat → Prop) (p : Option Addr) (cs : List Int) (ts : List (List I8)) : Prop :=
  (soundP cs ts = false ∧ p = none) ∨ (soundP cs ts = true ∧ ∃ R hb qb, p = some ⟨R.bk, 0, none⟩ ∧ RdOk R ∧ R.n = ts.length ∧ R.wd = cs.length ∧ R.ins = insL ts ∧ BsF w H R hb qb (begA cs ts))
theorem LayP.keeps {w w' : World} {G D : Nat → Prop} {o : Option Addr} {cs : List Int} {ts : List (List I8)} (h : LayP w G o cs ts) (k : Keeps D w w') (hD : ∀ y, D y → ¬ G y) : LayP w' G o cs ts := by
  rcases h with h | ⟨hs, B, bb, hb, qb, tv, e, h1, h2, h3, h4, b⟩
  · exact .inl h
  · exact .inr ⟨hs, B, bb, hb, qb, tv, e, h1, h2, h3, h4, b.keeps k hD⟩
theorem LayR.keeps {w w' : World} {G D : Nat → Prop} {o : Option Addr} {cs : List Int} {ts : List (List I8)} (h : LayR w G o cs ts) (k : Keeps D w w') (hD : ∀ y, D y → ¬ G y) : LayR w' G o cs ts := by
  rcases h with h | ⟨hs, R, hb, qb, e, h1, h2, h3, h4, b⟩
  · exact .inl h
  · exact .inr ⟨hs, R, hb, qb, e, h1, h2, h3, h4, b.keeps k hD⟩
theorem layV (w : World) (C : Nat) (ca : Option Addr) (cc : Nat) (ta : Option Addr) (tc : Nat) (tvf : Nat → Value) (cs : List Int) (tl : List (List I8)) (h : LitG w C ca cc ta tc tvf cs tl) (hC : C ≤ w.heap.size) (hco : csOk cs) (hio : ∀ l ∈ tl, ∀ x ∈ l, immOk x) :
    Calls Tryz.prog 30 #[.agg (litC ca cs.length cc ta tl.length tc)] w fun e w' => ∃ o, e = .returned (.tuple #[.pointer o, .int .i64 (outE cs tl)]) ∧ LayP w' (fun y => w.heap.size ≤ y ∧ y < w'.heap.size) o cs tl ∧ Keeps (fun _ => False) w w' := by
  unfold outE
  by_cases hsd : soundP cs tl = true
  · rw [if_pos hsd]
    refine (layB w C ca cc ta tc tvf cs tl h hC hsd hco hio).mono ?_
    rintro e w' ⟨B, bb, hb, qb, tv, he, h1, h2, h3, h4, b⟩
    exact ⟨_, he, .inr ⟨hsd, B, bb, hb, qb, tv, rfl, h1, h2, h3, h4, BnF.of b⟩, below_keeps b.bl⟩
  · rw [if_neg hsd]
    refine (lay_no w C ca cc ta tc tvf cs tl h hC (by simpa using hsd)).mono ?_
    rintro e w' ⟨he, k⟩
    exact ⟨none, he, .inl ⟨by simpa using hsd, rfl⟩, k⟩
theorem rlayV (w : World) (C : Nat) (ca : Option Addr) (cc : Nat) (ta : Option Addr) (tc : Nat) (tvf : Nat → Value) (cs : List Int) (tl : List (List I8)) (h : LitG w C ca cc ta tc tvf cs tl) (hC : C ≤ w.heap.size) :
    Calls Tryz.prog 32 #[.agg (litC ca cs.length cc ta tl.length tc)] w fun e w' => ∃ o, e = .returned (.tuple #[.pointer o, .int .i64 (outE cs tl)]) ∧ LayR w' (fun y => w.heap.size ≤ y ∧ y < w'.heap.size) o cs tl ∧ Keeps (fun _ => False) w w' := by
  unfold outE
  by_cases hsd : soundP cs tl = true
  · rw [if_pos hsd]
    refine (rlay_any w C ca cc ta tc tvf cs tl h hC hsd).mono ?_
    rintro e w' ⟨R, hb, qb, he, h1, h2, h3, h4, b⟩
    exact ⟨_, he, .inr ⟨hsd, R, hb, qb, rfl, h1, h2, h3, h4, BsF.of b⟩, below_keeps b.bl⟩
  · rw [if_neg hsd]
    refine (rlay_no w C ca cc ta tc tvf cs tl h hC (by simpa using hsd)).mono ?_
    rintro e w' ⟨he, k⟩
    exact ⟨none, he, .inl ⟨by simpa using hsd, rfl⟩, k⟩
end Go.Proofs.YtdpebhdjcgiboaaGreat

namespace Go.Proofs.YtdpebhdjcgiboaaGreat
open Go.ChangeShapes Go.WideShapes Go.ChangeAt Go.RowKit Go.MuLone Go.RwLone
set_option linter.unusedVariables false
set_option maxRecDepth 100000
set_option maxHeartbeats 6400000
/-- A harness of the program's just made. -/
theorem Hm.fresh {w w' : World} (pt : Nat → Nat) (n : Nat) (h2 : n ≤ 16) (k : Keeps (fun _ => False) ((w.alloc (.cells (madeCells #[.slice none 0 0] n) 120)).alloc (.cells #[.slice (some ⟨w.heap.size, 0, none⟩) n n, .int .i64 0, .slice none 0 0, .slice none 0 0] 118)) w') :
    Hm w' (fun y => y = w.heap.size ∨ y = w.heap.size + 1) pt (w.heap.size + 1) w.heap.size (fun _ => .slice none 0 0) (.slice none 0 0) (.slice none 0 0) (hpT n 0) := by
  have s1 : ((w.alloc (.cells (madeCells #[.slice none 0 0] n) 120)).alloc (.cells #[.slice (some ⟨w.heap.size, 0, none⟩) n n, .int .i64 0, .slice none 0 0, .slice none 0 0] 118)).heap.size = w.heap.size + 2 := by rw [szAl, szAl]
  have eq : w'.heap[w.heap.size]? = some (.cells (madeCells #[.slice none 0 0] n) 120) := (k.block _ (by omega) (fun e => e)).trans ((Below.heap_alloc _ _ _ (by rw [szAl]; omega)).trans (heap_alloc_last _ _ _ rfl))
  have eh : w'.heap[w.heap.size + 1]? = some (.cells #[.slice (some ⟨w.heap.size, 0, none⟩) n n, .int .i64 0, .slice none 0 0, .slice none 0 0] 118) := (k.block _ (by omega) (fun e => e)).trans (heap_alloc_last _ _ _ (szAl _ _).symm)
  have hl := hpT_len n 0
  refine ⟨by rw [hl]; exact eh, ⟨_, eq⟩, fun i hi => ?_, fun i hi => ?_, (fun i j g _ _ _ e => by cases e), OwG.nil _ _ _ _ _, OwG.nil _ _ _ _ _, .inr rfl, .inl rfl, (fun i g _ e => by cases e), (fun g e => by cases e), (fun g e => by cases e), fun x hx => ?_, by rw [hl]; exact h2⟩
  · rw [hl] at hi
    rw [cell?_heap eq i, ← Array.getElem?_toList, toList_madeCells_one]
    simp [hi]
  · have : (hpT n 0).q[i] = [] := by simp [hpT]
    rw [this]
    exact OwG.nil _ _ _ _ _
  · have := k.size
    rw [s1] at this
    rcases hx with rfl | rfl <;> omega
theorem hnew_no (w : World) (x : Int) (h : x < 1 ∨ 16 < x) :
    Calls Tryz.prog 33 #[.int .i64 x] w fun e w' => e = .returned (.tuple #[.pointer none, .int .i64 30]) ∧ w' = w := by
  by_cases h1 : x < 1
  · go_enter Tryz.func33, Tryz.ntmps33
    go_wp2
    go_ret2
    exact ⟨rfl, rfl⟩
  · have h2 : x > 16 := by omega
    go_enter Tryz.func33, Tryz.ntmps33
    go_wp2
    go_ret2
    exact ⟨rfl, rfl⟩
theorem rnew_no (w : World) (x : Int) (q : Option Addr) (h : x < 1 ∨ 16 < x) :
    Calls Tryz.prog 34 #[.int .i64 x, .pointer q] w fun e w' => e = .returned (.tuple #[.pointer none, .int .i64 30]) ∧ w' = w := by
  by_cases h1 : x < 1
  · go_enter Tryz.func34, Tryz.ntmps34
    go_wp2
    go_ret2
    exact ⟨rfl, rfl⟩
  · have h2 : x > 16 := by omega
    go_enter Tryz.func34, Tryz.ntmps34
    go_wp2
    go_ret2
    exact ⟨rfl, rfl⟩
theorem rnew_nil (w : World) (n : Nat) (h1 : 1 ≤ n) (h2 : n ≤ 16) :
    Calls Tryz.prog 34 #[.int .i64 (n : Int), .pointer none] w fun e w' => (∃ u, e = .returned (.tuple #[u, .int .i64 0])) ∧ Keeps (fun _ => False) w w' := by
  have i1 : ¬ (n : Int) < 1 := by omega
  have i2 : ¬ (n : Int) > 16 := by omega
  have hm := run_make_any (P := Tryz.prog) 156 217 _ 1 24 Tryz.underlying156 infoQ1 n (by omega) (by omega)
  go_enter Tryz.func34, Tryz.ntmps34
  go_wp2
  go_ret2
  exact ⟨⟨_, rfl⟩, ((Keeps.refl _ _).alloc _).alloc _⟩
/-- An operation of a script, as it is handed in. -/
structure Opx where
  kd : Int
  wh : Int
  tg : Int
  nn : Int
  pv : Value
  vs : List (Int × Int × Int)
  mv : Value
  ks : List Int
def opL (o : Opx) : List Value := [.int .i64 o.kd, .int .i64 o.wh, .int .i64 o.tg, .int .i64 o.nn, o.pv, o.mv]
structure OpOk (w : World) (C : Nat) (o : Opx) : Prop where
  p : InG pkC w C o.pv o.vs
  m : InG inZ w C o.mv o.ks
  pl : o.vs.length ≤ 1048576
  ml : o.ks.length ≤ 1048576
  n : o.nn ≤ 9223372036854775807
  q : ∀ p ∈ o.vs, p.2.2 ≤ 9223372036854775807
theorem OpOk.later {w w' : World} {C : Nat} {o : Opx} (h : OpOk w C o) (b : Below C w w') : OpOk w' C o := ⟨h.p.later b, h.m.later b, h.pl, h.ml, h.n, h.q⟩
section
variable (w : World) (G H P Q : Nat → Prop) (B : Bd) (bb b1 b2 : Nat) (tv : Value) (R : Rd) (r1 r2 hb qb rb sb sd : Nat) (a0 : Hp) (a : Hp × Ls) (ts : List (List I8)) (wd c nw : Nat) (p : PSt w G H P Q B bb b1 b2 tv R r1 r2 hb qb rb sb sd a0 a ts wd c nw) (hc : c ≤ 1000000000) (C : Nat) (hU : ∀ y, U4 G H P Q y → C ≤ y) (hC : C ≤ w.heap.size) (o : Opx) (ho : OpOk w C o)
/-- An operation that moves. -/
theorem op_move (hk : o.kd = 1 ∨ o.kd = 2 ∨ o.kd = 3 ∨ o.kd = 4 ∨ o.kd = 10) (p : PSt w G H P Q B bb b1 b2 tv R r1 r2 hb qb rb sb sd a0 a ts wd c nw) (hc : c ≤ 1000000000) (hU : ∀ y, U4 G H P Q y → C ≤ y) (hC : C ≤ w.heap.size) (ho : OpOk w C o) :
    Calls Tryz.prog 35 #[.pointer (some ⟨sd, 0, none⟩), .agg (opC o.kd o.wh o.tg o.nn o.pv o.mv)] w fun e w' => e = .returned (.bool true) ∧ MvP w G H P Q B bb b1 b2 tv R r1 r2 hb qb rb sb sd a0 ts wd c nw w' := by
  obtain ⟨kd, wh, tg, nn, pv, vs, mv, ks⟩ := o
  obtain ⟨pa, pc, e1, _⟩ := ho.p
  obtain ⟨ma, mc, e2, _⟩ := ho.m
  dsimp only at e1 e2 hk
  subst e1 e2
  rcases hk with rfl | rfl | rfl | rfl | rfl
  · exact mv_submit w G H P Q B bb b1 b2 tv R r1 r2 hb qb rb sb sd a0 a ts wd c nw p C hC wh tg nn pa vs.length pc ma mc ks ho.m ho.ml
  · exact mv_step w G H P Q B bb b1 b2 tv R r1 r2 hb qb rb sb sd a0 a ts wd c nw p hc wh tg nn pa vs.length pc ma ks.length mc
  · exact mv_play w G H P Q B bb b1 b2 tv R r1 r2 hb qb rb sb sd a0 a ts wd c nw p hc C hU hC wh tg nn ho.n pa pc vs ho.p ho.pl ho.q ma ks.length mc
  · exact mv_drain w G H P Q B bb b1 b2 tv R r1 r2 hb qb rb sb sd a0 a ts wd c nw p hc wh tg nn ho.n pa vs.length pc ma ks.length mc
  · exact mv_thread w G H P Q B bb b1 b2 tv R r1 r2 hb qb rb sb sd a0 a ts wd c nw p wh tg nn pa vs.length pc ma ks.length mc
/-- An operation that looks. -/
theorem op_look (p : PSt w G H P Q B bb b1 b2 tv R r1 r2 hb qb rb sb sd a0 a ts wd c nw) (hc : c ≤ 1000000000) (ho : OpOk w C o) :
    Calls Tryz.prog 36 #[.pointer (some ⟨sd, 0, none⟩), .agg (opC o.kd o.wh o.tg o.nn o.pv o.mv)] w fun e w' => e = .returned (.bool true) ∧ MvP w G H P Q B bb b1 b2 tv R r1 r2 hb qb rb sb sd a0 ts wd c nw w' := by
  obtain ⟨kd, wh, tg, nn, pv, vs, mv, ks⟩ := o
  obtain ⟨pa, pc, e1, _⟩ := ho.p
  obtain ⟨ma, mc, e2, _⟩ := ho.m
  dsimp only at e1 e2
  subst e1 e2
  by_cases n5 : kd = 5
  · subst n5
    exact lk_pend w G H P Q B bb b1 b2 tv R r1 r2 hb qb rb sb sd a0 a ts wd c nw p wh tg nn pa vs.length pc ma ks.length mc
  by_cases n6 : kd = 6
  · subst n6
    exact lk_idle w G H P Q B bb b1 b2 tv R r1 r2 hb qb rb sb sd a0 a ts wd c nw p wh tg nn pa vs.length pc ma ks.length mc
  by_cases n7 : kd = 7
  · subst n7
    exact lk_steps w G H P Q B bb b1 b2 tv R r1 r2 hb qb rb sb sd a0 a ts wd c nw p wh tg nn pa vs.length pc ma ks.length mc
  by_cases n8 : kd = 8
  · subst n8
    exact lk_events w G H P Q B bb b1 b2 tv R r1 r2 hb qb rb sb sd a0 a ts wd c nw p hc wh tg nn pa vs.length pc ma ks.length mc
  by_cases n9 : kd = 9
  · subst n9
    exact lk_take w G H P Q B bb b1 b2 tv R r1 r2 hb qb rb sb sd a0 a ts wd c nw p hc wh tg nn pa vs.length pc ma ks.length mc
  by_cases n11 : kd = 11
  · subst n11
    exact lk_regs w G H P Q B bb b1 b2 tv R r1 r2 hb qb rb sb sd a0 a ts wd c nw p wh tg nn pa vs.length pc ma ks.length mc
  by_cases n12 : kd = 12
  · subst n12
    exact lk_outcome w G H P Q B bb b1 b2 tv R r1 r2 hb qb rb sb sd a0 a ts wd c nw p wh tg nn pa vs.length pc ma ks.length mc
  exact lk_none w G H P Q B bb b1 b2 tv R r1 r2 hb qb rb sb sd a0 a ts wd c nw p kd wh tg nn pa vs.length pc ma ks.length mc n5 n6 n7 n8 n9 n11 n12
end
end Go.Proofs.YtdpebhdjcgiboaaGreat
