import Derived.Test.YtdpebhdjcgiboaaGreatJSg9
import Derived.Handy
import Derived.Deep.DeepCutAuto
namespace Go.Proofs.YtdpebhdjcgiboaaGreat
set_option linter.unusedSimpArgs false
open Go.ChangeShapes Go.WideShapes Go.ChangeAt Go.RowKit Go.MuLone Go.RwLone
set_option linter.unusedVariables false
set_option maxRecDepth 100000
set_option maxHeartbeats 3200000
/-- Where the document's program lies. -/
structure Rd where
  bk : Nat
  tb : Nat
  cb : Nat
  rb : Nat → Nat
  rk : Nat → Nat
  ia : Nat → Option Addr
  icap : Nat → Nat
  wd : Nat
  n : Nat
  cc : Nat
  tc : Nat
  ins : Nat → List I8
/-- The blocks that its steps write. -/
def fRw (R : Rd) (y : Nat) : Prop := y = R.tb ∨ y = R.cb ∨ ∃ j, j < R.n ∧ y = R.rb j
/-- All of its blocks. -/
def fR (R : Rd) (y : Nat) : Prop := fRw R y ∨ y = R.bk ∨ ∃ j, j < R.n ∧ R.ia j = some ⟨y, 0, none⟩
structure RdOk (R : Rd) : Prop where
  bk : ¬ fRw R R.bk
  tc : R.tb ≠ R.cb
  tr : ∀ j, j < R.n → R.rb j ≠ R.tb ∧ R.rb j ≠ R.cb
  rr : ∀ i j, i < R.n → j < R.n → i ≠ j → R.rb i ≠ R.rb j
  ib : ∀ j ib, j < R.n → R.ia j = some ⟨ib, 0, none⟩ → ¬ fRw R ib
  sd : ∀ i, i < R.n → ∀ x ∈ R.ins i, snd R.wd x
  ln : ∀ i, i < R.n → (R.ins i).length ≤ 1000
  n4 : R.n ≤ 4
structure RP (R : Rd) (w : World) (s : Ls) : Prop where
  p0 : w.cell? ⟨R.bk, 0, none⟩ = some (.slice (some ⟨R.cb, 0, none⟩) R.wd R.cc)
  p1 : w.cell? ⟨R.bk, 1, none⟩ = some (.slice (some ⟨R.tb, 0, none⟩) R.n R.tc)
  t0 : ∀ i, i < R.n → w.cell? ⟨R.tb, i * 3, none⟩ = some (.slice (R.ia i) (R.ins i).length (R.icap i))
  t1 : ∀ i, i < R.n → w.cell? ⟨R.tb, i * 3 + 1, none⟩ = some (.slice (some ⟨R.rb i, 0, none⟩) 4 (4 + R.rk i))
  t2 : ∀ i, i < R.n → w.cell? ⟨R.tb, i * 3 + 2, none⟩ = some (.int .i64 (s.pl i : Int))
  rg : ∀ i j, i < R.n → j < 4 → w.cell? ⟨R.rb i, j, none⟩ = some (.int .u64 (s.rg i j))
  ce : ∀ c, c < R.wd → w.cell? ⟨R.cb, c, none⟩ = some (.int .u64 (s.wo c))
  ro : ∀ i, i < R.n → Ro w (R.ia i) (R.ins i)
  fz : ∀ g j, fRw R g → w.frozen? ⟨g, j, none⟩ = false
  lt : ∀ y, fR R y → y < w.heap.size
theorem RP.keeps {R : Rd} {w w' : World} {s : Ls} {D : Nat → Prop} (h : RP R w s) (k : Keeps D w w') (hD : ∀ y, D y → ¬ fR R y) : RP R w' s := by
  have e : ∀ g j, fR R g → w'.cell? ⟨g, j, none⟩ = w.cell? ⟨g, j, none⟩ := fun g j hg => k.cell (p := ⟨g, j, none⟩) (h.lt g hg) (fun e => hD g e hg)
  exact ⟨(e _ _ (.inr (.inl rfl))).trans h.p0, (e _ _ (.inr (.inl rfl))).trans h.p1, fun i hi => (e _ _ (.inl (.inl rfl))).trans (h.t0 i hi), fun i hi => (e _ _ (.inl (.inl rfl))).trans (h.t1 i hi), fun i hi => (e _ _ (.inl (.inl rfl))).trans (h.t2 i hi), fun i j hi hj => (e _ _ (.inl (.inr (.inr ⟨i, hi, rfl⟩)))).trans (h.rg i j hi hj), fun c hc => (e _ _ (.inl (.inr (.inl rfl)))).trans (h.ce c hc), fun i hi => (h.ro i hi).keeps k (fun ib e' e'' => hD ib e'' (.inr (.inr ⟨i, hi, e'⟩))), fun g j hg => (k.frozen (p := ⟨g, j, none⟩) (h.lt g (.inl hg)) (fun e => hD g e (.inl hg))).trans (h.fz g j hg), fun y hy => Nat.lt_of_lt_of_le (h.lt y hy) k.size⟩
theorem RP.still {R : Rd} {w w' : World} {s : Ls} (h : RP R w s) (k : Keeps (fun _ => False) w w') : RP R w' s := h.keeps k (fun _ e => e.elim)
theorem RP.set {R : Rd} (hR : RdOk R) {w : World} {s s' : Ls} {g j : Nat} {v : Value} (h : RP R w s) (hg : fRw R g)
    (h0 : ∀ i, i < R.n → ¬ (g = R.tb ∧ j = i * 3)) (h1 : ∀ i, i < R.n → ¬ (g = R.tb ∧ j = i * 3 + 1))
    (t2 : ∀ i, i < R.n → (w.setCell ⟨g, j, none⟩ v).cell? ⟨R.tb, i * 3 + 2, none⟩ = some (.int .i64 (s'.pl i : Int)))
    (rg : ∀ i k, i < R.n → k < 4 → (w.setCell ⟨g, j, none⟩ v).cell? ⟨R.rb i, k, none⟩ = some (.int .u64 (s'.rg i k)))
    (ce : ∀ c, c < R.wd → (w.setCell ⟨g, j, none⟩ v).cell? ⟨R.cb, c, none⟩ = some (.int .u64 (s'.wo c))) : RP R (w.setCell ⟨g, j, none⟩ v) s' := by
  have o : ∀ g' j', (g' ≠ g ∨ j' ≠ j) → (w.setCell ⟨g, j, none⟩ v).cell? ⟨g', j', none⟩ = w.cell? ⟨g', j', none⟩ := fun g' j' hn => World.cell?_setCell_other _ _ _ _ (fun e => hn.elim (fun hn => hn (congrArg Addr.block e).symm) (fun hn => hn (congrArg Addr.off e).symm))
  have k : Keeps (fun y => y = g) w (w.setCell ⟨g, j, none⟩ v) := Keeps.setCell (B := fun y => y = g) (Keeps.refl _ _) rfl _
  have nb : R.bk ≠ g := fun e => hR.bk (e ▸ hg)
  refine ⟨(o _ _ (.inl nb)).trans h.p0, (o _ _ (.inl nb)).trans h.p1, fun i hi => (o _ _ ?_).trans (h.t0 i hi), fun i hi => (o _ _ ?_).trans (h.t1 i hi), t2, rg, ce, fun i hi => (h.ro i hi).keeps k (fun ib e e' => hR.ib i ib hi e (e' ▸ hg)), fun g' j' hg' => by simpa using h.fz g' j' hg', fun y hy => by simpa using h.lt y hy⟩
  · by_cases e : R.tb = g
    · exact .inr (fun e' => h0 i hi ⟨e.symm, e'.symm⟩)
    · exact .inl e
  · by_cases e : R.tb = g
    · exact .inr (fun e' => h1 i hi ⟨e.symm, e'.symm⟩)
    · exact .inl e
theorem RP.setPl {R : Rd} (hR : RdOk R) {w : World} {s : Ls} (h : RP R w s) (i x : Nat) (hi : i < R.n) : RP R (w.setCell ⟨R.tb, i * 3 + 2, none⟩ (.int .i64 (x : Int))) ⟨s.wo, s.rg, upd s.pl i x⟩ := by
  refine h.set hR (.inl rfl) (fun k _ e => by omega) (fun k _ e => by omega) (fun k hk => ?_) (fun k j hk hj => ?_) (fun c hc => ?_)
  · by_cases e : k = i
    · subst e
      show _ = some (Value.int .i64 ((upd s.pl k x k : Nat) : Int))
      rw [upd_same]
      exact World.cell?_setCell_same _ _ _ (h.t2 k hk)
    · show _ = some (Value.int .i64 ((upd s.pl i x k : Nat) : Int))
      rw [upd_other _ _ e, World.cell?_setCell_other _ _ _ _ (fun e' => by have := congrArg Addr.off e'; simp at this; omega)]
      exact h.t2 k hk
  · rw [World.cell?_setCell_other _ _ _ _ (fun e' => (hR.tr k hk).1 (congrArg Addr.block e').symm)]
    exact h.rg k j hk hj
  · rw [World.cell?_setCell_other _ _ _ _ (fun e' => hR.tc (congrArg Addr.block e'))]
    exact h.ce c hc
theorem RP.setRg {R : Rd} (hR : RdOk R) {w : World} {s : Ls} (h : RP R w s) (i j : Nat) (x : Int) (hi : i < R.n) (hj : j < 4) : RP R (w.setCell ⟨R.rb i, j, none⟩ (.int .u64 x)) ⟨s.wo, upd s.rg i (upd (s.rg i) j x), s.pl⟩ := by
  refine h.set hR (.inr (.inr ⟨i, hi, rfl⟩)) (fun k _ e => (hR.tr i hi).1 e.1) (fun k _ e => (hR.tr i hi).1 e.1) (fun k hk => ?_) (fun k m hk hm => ?_) (fun c hc => ?_)
  · rw [World.cell?_setCell_other _ _ _ _ (fun e' => (hR.tr i hi).1 (congrArg Addr.block e'))]
    exact h.t2 k hk
  · show _ = some (Value.int .u64 (upd s.rg i (upd (s.rg i) j x) k m))
    by_cases e : k = i
    · subst e
      rw [upd_same]
      by_cases e2 : m = j
      · subst e2
        rw [upd_same]
        exact World.cell?_setCell_same _ _ _ (h.rg k m hk hm)
      · rw [upd_other _ _ e2, World.cell?_setCell_other _ _ _ _ (fun e' => e2 (congrArg Addr.off e').symm)]
        exact h.rg k m hk hm
    · rw [upd_other _ _ e, World.cell?_setCell_other _ _ _ _ (fun e' => hR.rr i k hi hk (fun e3 => e e3.symm) (congrArg Addr.block e'))]
      exact h.rg k m hk hm
  · rw [World.cell?_setCell_other _ _ _ _ (fun e' => (hR.tr i hi).2 (congrArg Addr.block e'))]
    exact h.ce c hc
theorem RP.setWo {R : Rd} (hR : RdOk R) {w : World} {s : Ls} (h : RP R w s) (c : Nat) (x : Int) (hc : c < R.wd) : RP R (w.setCell ⟨R.cb, c, none⟩ (.int .u64 x)) ⟨upd s.wo c x, s.rg, s.pl⟩ := by
  refine h.set hR (.inr (.inl rfl)) (fun k _ e => hR.tc e.1.symm) (fun k _ e => hR.tc e.1.symm) (fun k hk => ?_) (fun k m hk hm => ?_) (fun d hd => ?_)
  · rw [World.cell?_setCell_other _ _ _ _ (fun e' => hR.tc (congrArg Addr.block e').symm)]
    exact h.t2 k hk
  · rw [World.cell?_setCell_other _ _ _ _ (fun e' => (hR.tr k hk).2 (congrArg Addr.block e').symm)]
    exact h.rg k m hk hm
  · show _ = some (Value.int .u64 (upd s.wo c x d))
    by_cases e : d = c
    · subst e
      rw [upd_same]
      exact World.cell?_setCell_same _ _ _ (h.ce d hd)
    · rw [upd_other _ _ e, World.cell?_setCell_other _ _ _ _ (fun e' => e (congrArg Addr.off e').symm)]
      exact h.ce d hd
/-- What the document's Val stands for. -/
theorem rvalue_any (w : World) (R : Rd) (s : Ls) (h : RP R w s) (i : Nat) (hi : i < R.n) (r x : Int) (hr : r ≤ 3) : Calls Tryz.prog 117 #[.agg #[.int .i64 r, .int .u64 x], .slice (some ⟨R.rb i, 0, none⟩) 4 (4 + R.rk i)] w fun e w' => e = .returned (.int .u64 (valP (s.rg i) r x)) ∧ Keeps (fun _ => False) w w' := by
  by_cases h0 : r < 0
  · have hv : valP (s.rg i) r x = x := by unfold valP; rw [if_pos (.inl h0)]
    rw [hv]
    have hn : ¬ 0 ≤ r := by omega
    go_enter Tryz.func117, Tryz.ntmps117
    go_wp2
    go_ret
    exact ⟨rfl, (Keeps.refl _ _).alloc _⟩
  · obtain ⟨k, rfl⟩ : ∃ k : Nat, r = (k : Int) := ⟨r.toNat, by omega⟩
    have hk : k < 4 := by omega
    have hv : valP (s.rg i) k x = IntKind.u64.wrap (x + s.rg i k) := by unfold valP; rw [if_neg (by omega), IntKind.wrap_u64]; rfl
    rw [hv]
    have HB : Hid (Keeps (fun _ => False) w (w.alloc (.cells #[.int .i64 (k : Int), .int .u64 x] 104))) := (Keeps.refl _ _).alloc _
    have cT : (w.alloc (.cells #[.int .i64 (k : Int), .int .u64 x] 104)).cell? ⟨R.rb i, k, none⟩ = some (.int .u64 (s.rg i k)) := (h.still HB.out).rg i k hi hk
    have k0 : (0 : Int) ≤ (k : Int) := Int.natCast_nonneg _
    have k1 : (k : Int) < 4 := by omega
    have b0 : (w.alloc (.cells #[.int .i64 (k : Int), .int .u64 x] 104)).cell? ⟨w.heap.size, 0, none⟩ = some (.int .i64 (k : Int)) := (cell?_heap (heap_alloc_last _ _ _ rfl) 0).trans rfl
    have b1 : (w.alloc (.cells #[.int .i64 (k : Int), .int .u64 x] 104)).cell? ⟨w.heap.size, 1, none⟩ = some (.int .u64 x) := (cell?_heap (heap_alloc_last _ _ _ rfl) 1).trans rfl
    clear h
    go_enter Tryz.func117, Tryz.ntmps117
    go_wp2_with fail
    generalize w.alloc (.cells #[.int .i64 (k : Int), .int .u64 x] 104) = W at *
    generalize w.heap.size = g at *
    (refine wp_region_held_drew (S := (fun V => V.cell? ⟨g, 0, none⟩ = some (.int .i64 (k : Int)) ∧ V.cell? ⟨g, 1, none⟩ = some (.int .u64 x) ∧ V.cell? ⟨R.rb i, k, none⟩ = some (.int .u64 (s.rg i k)))) (by kernel_rfl) ⟨b0, b1, cT⟩ (fun hHeld => ?_); simp only [List.size_toArray, List.length_cons, List.length_nil, Nat.reduceAdd, Array.replicate_succ, Array.replicate_zero, List.push_toArray, List.append_toArray, List.nil_append, List.cons_append])
    refine rgT 0 (h := ?_)
    refine rgT 1 (h := ?_)
    refine rgT 2 (h := ?_)
    refine rgT 3 (h := ?_)
    refine rgT 4 (h := ?_)
    refine rgT 5 (h := ?_)
    refine rgT 6 (h := ?_)
    refine rgT 7 (h := ?_)
    refine rgT 8 (h := ?_)
    refine wpAnyH_done (by kernel_rfl) ?_ _
    go_wp2
    go_ret
    exact ⟨rfl, HB.out.drew⟩
end Go.Proofs.YtdpebhdjcgiboaaGreat

namespace Go.Proofs.YtdpebhdjcgiboaaGreat
set_option linter.unusedSimpArgs false
open Go.ChangeShapes Go.WideShapes Go.ChangeAt Go.RowKit Go.MuLone Go.RwLone
set_option linter.unusedVariables false
set_option maxRecDepth 100000
set_option maxHeartbeats 3200000
/-- The document's thread at work, its instruction in the box g. -/
structure Rk (w W : World) (R : Rd) (s : Ls) (g : Nat) (x : I8) : Prop where
  p : RP R W s
  bx : ∀ j u, (iV x)[j]? = some u → W.cell? ⟨g, j, none⟩ = some u
  k : Keeps (fRw R) w W
  gl : g < W.heap.size
  ng : ¬ fR R g
theorem Rk.still {w W W' : World} {R : Rd} {s : Ls} {g : Nat} {x : I8} (h : Rk w W R s g x) (k : Keeps (fun _ => False) W W') : Rk w W' R s g x :=
  ⟨h.p.still k, fun j u hu => (k.cell (p := ⟨g, j, none⟩) h.gl (fun e => e)).trans (h.bx j u hu), h.k.trans (k.mono (fun _ e => e.elim)), Nat.lt_of_lt_of_le h.gl k.size, h.ng⟩
theorem Rk.drew {w W : World} {R : Rd} {s : Ls} {g : Nat} {x : I8} (h : Rk w W R s g x) : Rk w W.drew R s g x := h.still (Keeps.refl _ _).drew
theorem Rk.put {w W : World} {R : Rd} {s s' : Ls} {g : Nat} {x : I8} {b j : Nat} {v : Value} (h : Rk w W R s g x) (hb : fRw R b) (p : RP R (W.setCell ⟨b, j, none⟩ v) s') : Rk w (W.setCell ⟨b, j, none⟩ v) R s' g x :=
  ⟨p, fun i u hu => (World.cell?_setCell_other _ _ _ _ (fun e => h.ng (.inl (by have e2 : b = g := congrArg Addr.block e; exact e2 ▸ hb)))).trans (h.bx i u hu), h.k.setCell (p := ⟨b, j, none⟩) hb _, by simpa using h.gl, h.ng⟩
theorem Rk.start {w : World} {R : Rd} {s : Ls} (x : I8) (h : RP R w s) : Rk w (w.alloc (.cells (iV x) 106)) R s w.heap.size x :=
  ⟨h.still ((Keeps.refl _ _).alloc _), fun j u hu => (cell?_heap (heap_alloc_last _ _ _ rfl) j).trans hu, (Keeps.refl _ _).alloc _, by simp, fun e => by have := h.lt _ e; omega⟩
theorem upd_upd {α : Type} (f : Nat → α) (i : Nat) (a b : α) : upd (upd f i a) i b = upd f i b := by
  funext k
  by_cases e : k = i
  · subst e; rw [upd_same, upd_same]
  · rw [upd_other _ _ e, upd_other _ _ e, upd_other _ _ e]
theorem RP.t0' {R : Rd} {w : World} {s : Ls} (h : RP R w s) {i ib m : Nat} (hi : i < R.n) (hia : R.ia i = some ⟨ib, 0, none⟩) (hml : (R.ins i).length = m) : w.cell? ⟨R.tb, i * 3, none⟩ = some (.slice (some ⟨ib, 0, none⟩) m (R.icap i)) := by
  have := h.t0 i hi
  rw [hia, hml] at this
  exact this
theorem RP.t2' {R : Rd} {w : World} {a : Nat → Int} {b : Nat → Nat → Int} {f : Nat → Nat} {i x : Nat} (h : RP R w ⟨a, b, upd f i x⟩) (hi : i < R.n) : w.cell? ⟨R.tb, i * 3 + 2, none⟩ = some (.int .i64 (x : Int)) := by
  have q : w.cell? ⟨R.tb, i * 3 + 2, none⟩ = some (.int .i64 ((upd f i x i : Nat) : Int)) := h.t2 i hi
  rw [upd_same] at q
  exact q
theorem rstep_done (R : Rd) (w : World) (s : Ls) (h : RP R w s) (i : Nat) (hi : i < R.n) (hn4 : R.n ≤ 4) (hp : ¬ s.pl i < (R.ins i).length) (hln : (R.ins i).length ≤ 1000) :
    Calls Tryz.prog 69 #[.pointer (some ⟨R.bk, 0, none⟩), .int .i64 (i : Int)] w fun e w' => e = .returned (.bool true) ∧ Keeps (fun _ => False) w w' := by
  have p1 := h.p1
  have i0 : (0 : Int) ≤ (i : Int) := Int.natCast_nonneg _
  have i1 : (i : Int) < (R.n : Int) := by omega
  have H : Hid (w.cell? ⟨R.tb, i * 3 + 2, none⟩ = some (.int .i64 (s.pl i : Int)) ∧ w.cell? ⟨R.tb, i * 3, none⟩ = some (.slice (R.ia i) (R.ins i).length (R.icap i))) := ⟨h.t2 i hi, h.t0 i hi⟩
  have hge : ((R.ins i).length : Int) ≤ (s.pl i : Int) := by omega
  clear h
  generalize (R.ins i).length = m at *
  generalize s.pl i = pl at *
  go_enter Tryz.func69, Tryz.ntmps69
  go_wp2_with fail
  (refine wp_region_held_drew (S := (fun W => W.cell? ⟨R.tb, i * 3 + 2, none⟩ = some (.int .i64 (pl : Int)) ∧ W.cell? ⟨R.tb, i * 3, none⟩ = some (.slice (R.ia i) m (R.icap i)))) (by kernel_rfl) H.out (fun hHeld => ?_); simp only [List.size_toArray, List.length_cons, List.length_nil, Nat.reduceAdd, Array.replicate_succ, Array.replicate_zero, List.push_toArray, List.append_toArray, List.nil_append, List.cons_append])
  refine rgT 0 (h := ?_)
  refine rgT 1 (h := ?_)
  refine rgT 2 (h := ?_)
  refine rgT 3 (h := ?_)
  refine rgT 4 (h := ?_)
  refine rgT 5 (h := ?_)
  refine rgT 6 (h := ?_)
  refine rgT 7 (h := ?_)
  refine rgT 8 (h := ?_)
  refine rgT 9 (h := ?_)
  refine wpAnyH_done (by kernel_rfl) ?_ _
  go_wp2
  go_ret
  exact ⟨rfl, (Keeps.refl _ _).drew⟩
theorem rstep_1 (R : Rd) (hR : RdOk R) (w : World) (s : Ls) (h : RP R w s) (i : Nat) (hi : i < R.n) (pl m ib : Nat) (c r nr ni orr oi n : Int) (hia : R.ia i = some ⟨ib, 0, none⟩) (hml : (R.ins i).length = m) (h8 : In8 w ib pl 1 c r nr ni orr oi n) (hpl : pl < m) (hm : m ≤ 1000) (hps : s.pl i = pl) (c0 : 0 ≤ c) (c1 : c < (R.wd : Int)) (r0 : 0 ≤ r) (r1 : r < 4) :
    Calls Tryz.prog 69 #[.pointer (some ⟨R.bk, 0, none⟩), .int .i64 (i : Int)] w fun e w' => e = .returned (.bool (decide (m ≤ pl + 1))) ∧ RP R w' ⟨s.wo, upd s.rg i (upd (s.rg i) r.toNat (s.wo c.toNat)), upd s.pl i (pl + 1)⟩ ∧ Keeps (fRw R) w w' := by
  obtain ⟨j, rfl⟩ : ∃ j : Nat, c = (j : Int) := ⟨c.toNat, by omega⟩
  have hj : j < R.wd := by omega
  have ej : ((j : Int)).toNat = j := by omega
  rw [ej]
  have j0 : (0 : Int) ≤ (j : Int) := Int.natCast_nonneg _
  obtain ⟨k, rfl⟩ : ∃ k : Nat, r = (k : Int) := ⟨r.toNat, by omega⟩
  have hk : k < 4 := by omega
  have ek : ((k : Int)).toNat = k := by omega
  rw [ek]
  have hr0 : (0 : Int) ≤ (k : Int) := Int.natCast_nonneg _
  have hr1 : (k : Int) < 4 := by omega
  have p1 := h.p1
  have i0 : (0 : Int) ≤ (i : Int) := Int.natCast_nonneg _
  have i1 : (i : Int) < (R.n : Int) := by omega
  have hp0 : (0 : Int) ≤ (pl : Int) := Int.natCast_nonneg _
  have hp1 : (pl : Int) < (m : Int) := by omega
  have hlt : ¬ (m : Int) ≤ (pl : Int) := by omega
  have ht2 := h.t2 i hi
  rw [hps] at ht2
  have ht0 := h.t0' hi hia hml
  have H : Hid (RP R w s ∧ w.cell? ⟨R.tb, i * 3 + 2, none⟩ = some (.int .i64 (pl : Int)) ∧ w.cell? ⟨R.tb, i * 3, none⟩ = some (.slice (some ⟨ib, 0, none⟩) m (R.icap i))) := ⟨h, ht2, ht0⟩
  have HA : Hid (∀ W, Keeps (fun _ => False) w W → W.cell? ⟨R.tb, i * 3 + 2, none⟩ = some (.int .i64 (pl : Int)) ∧ W.cell? ⟨R.tb, i * 3, none⟩ = some (.slice (some ⟨ib, 0, none⟩) m (R.icap i)) ∧ W.cell? ⟨ib, pl * 8, none⟩ = some (.int .i64 1) ∧ W.cell? ⟨ib, pl * 8 + 1, none⟩ = some (.int .i64 j) ∧ W.cell? ⟨ib, pl * 8 + 2, none⟩ = some (.int .i64 k) ∧ W.cell? ⟨ib, pl * 8 + 3, none⟩ = some (.int .i64 nr) ∧ W.cell? ⟨ib, pl * 8 + 4, none⟩ = some (.int .u64 ni) ∧ W.cell? ⟨ib, pl * 8 + 5, none⟩ = some (.int .i64 orr) ∧ W.cell? ⟨ib, pl * 8 + 6, none⟩ = some (.int .u64 oi) ∧ W.cell? ⟨ib, pl * 8 + 7, none⟩ = some (.int .i64 n)) := fun W k => by
    have q := h8.keeps k (fun e => e)
    exact ⟨((k.cell (p := ⟨R.tb, i * 3 + 2, none⟩) (h.lt _ (.inl (.inl rfl))) (fun e => e))).trans ht2, ((k.cell (p := ⟨R.tb, i * 3, none⟩) (h.lt _ (.inl (.inl rfl))) (fun e => e))).trans ht0, q.c0, q.c1, q.c2, q.c3, q.c4, q.c5, q.c6, q.c7⟩
  have HS : Hid (Rk w (w.alloc (.cells (iV ⟨1, j, k, nr, ni, orr, oi, n⟩) 106)).drew.drew R s w.heap.size ⟨1, j, k, nr, ni, orr, oi, n⟩) := (Rk.start _ h).drew.drew
  clear h ht2 ht0 h8
  go_enter Tryz.func69, Tryz.ntmps69
  go_wp2_with fail
  (refine wp_region_held_drew (S := (fun W => W.cell? ⟨R.tb, i * 3 + 2, none⟩ = some (.int .i64 (pl : Int)) ∧ W.cell? ⟨R.tb, i * 3, none⟩ = some (.slice (some ⟨ib, 0, none⟩) m (R.icap i)))) (by kernel_rfl) ⟨H.out.2.1, H.out.2.2⟩ (fun hHeld => ?_); simp only [List.size_toArray, List.length_cons, List.length_nil, Nat.reduceAdd, Array.replicate_succ, Array.replicate_zero, List.push_toArray, List.append_toArray, List.nil_append, List.cons_append])
  refine rgT 0 (h := ?_)
  refine rgT 1 (h := ?_)
  refine rgT 2 (h := ?_)
  refine rgT 3 (h := ?_)
  refine rgT 4 (h := ?_)
  refine rgT 5 (h := ?_)
  refine rgT 6 (h := ?_)
  refine rgT 7 (h := ?_)
  refine rgT 8 (h := ?_)
  refine rgT 9 (h := ?_)
  refine wpAnyH_done (by kernel_rfl) ?_ _
  go_wp2_with fail
  (refine wp_region_held_drew (S := (fun W => W.cell? ⟨R.tb, i * 3 + 2, none⟩ = some (.int .i64 (pl : Int)) ∧ W.cell? ⟨R.tb, i * 3, none⟩ = some (.slice (some ⟨ib, 0, none⟩) m (R.icap i)) ∧ W.cell? ⟨ib, pl * 8, none⟩ = some (.int .i64 1) ∧ W.cell? ⟨ib, pl * 8 + 1, none⟩ = some (.int .i64 j) ∧ W.cell? ⟨ib, pl * 8 + 2, none⟩ = some (.int .i64 k) ∧ W.cell? ⟨ib, pl * 8 + 3, none⟩ = some (.int .i64 nr) ∧ W.cell? ⟨ib, pl * 8 + 4, none⟩ = some (.int .u64 ni) ∧ W.cell? ⟨ib, pl * 8 + 5, none⟩ = some (.int .i64 orr) ∧ W.cell? ⟨ib, pl * 8 + 6, none⟩ = some (.int .u64 oi) ∧ W.cell? ⟨ib, pl * 8 + 7, none⟩ = some (.int .i64 n))) (by kernel_rfl) (HA.out _ (Keeps.refl _ _).drew.drew) (fun hHeld => ?_); simp only [List.size_toArray, List.length_cons, List.length_nil, Nat.reduceAdd, Array.replicate_succ, Array.replicate_zero, List.push_toArray, List.append_toArray, List.nil_append, List.cons_append])
  refine rgT 0 (h := ?_)
  refine rgT 1 (h := ?_)
  refine rgT 2 (h := ?_)
  refine rgT 3 (h := ?_)
  refine rgT 4 (h := ?_)
  refine rgT 5 (h := ?_)
  refine rgT 6 (h := ?_)
  refine rgT 7 (h := ?_)
  refine rgT 8 (h := ?_)
  refine rgT 9 (h := ?_)
  (refine rgS 10 (h := fun K hK => ?_); go_simp)
  (refine hK.out _ _ (HA.out _ ((Keeps.refl _ _).alloc _).drew.drew) (fun hHeld => ?_); clear hK K; try simp only [Act.put, List.setIfInBounds_toArray, List.set_cons_zero, List.set_cons_succ])
  (refine rgS 11 (h := fun K hK => ?_); go_simp)
  (refine hK.out _ _ (HA.out _ ((Keeps.refl _ _).alloc _).drew.drew) (fun hHeld => ?_); clear hK K; try simp only [Act.put, List.setIfInBounds_toArray, List.set_cons_zero, List.set_cons_succ])
  refine wpAnyH_done (by kernel_rfl) ?_ _
  clear H HA p1 hlt hp0 hp1
  change Hid (Rk w (w.alloc (.cells #[.int .i64 1, .int .i64 j, .int .i64 k, .int .i64 nr, .int .u64 ni, .int .i64 orr, .int .u64 oi, .int .i64 n] 106)).drew.drew R s w.heap.size ⟨1, j, k, nr, ni, orr, oi, n⟩) at HS
  generalize (w.alloc (.cells #[.int .i64 1, .int .i64 j, .int .i64 k, .int .i64 nr, .int .u64 ni, .int .i64 orr, .int .u64 oi, .int .i64 n] 106)).drew.drew = W0 at *
  generalize w.heap.size = g at *
  have t2 := HS.out.p.t2 i hi
  rw [hps] at t2
  have f2 := HS.out.p.fz R.tb (i * 3 + 2) (.inl rfl)
  have b0 := HS.out.bx 0 _ rfl
  have hw1 : (pl : Int) + 1 = ((pl + 1 : Nat) : Int) := by omega
  have H1 : Hid (Rk w (W0.setCell ⟨R.tb, i * 3 + 2, none⟩ (.int .i64 ((pl : Int) + 1))) R ⟨s.wo, s.rg, upd s.pl i (pl + 1)⟩ g ⟨1, j, k, nr, ni, orr, oi, n⟩) := by
    rw [hw1]
    exact HS.out.put (.inl rfl) (HS.out.p.setPl hR i (pl + 1) hi)
  clear hw1
  have nb : (⟨R.tb, i * 3 + 2, none⟩ : Addr) ≠ ⟨g, 0, none⟩ := fun e => HS.out.ng (.inl (.inl (congrArg Addr.block e).symm))
  have b1 := H1.out.bx 0 _ rfl
  go_wp2_with fail
  clear t2 f2 b0 nb b1 HS
  generalize W0.setCell ⟨R.tb, i * 3 + 2, none⟩ (.int .i64 ((pl : Int) + 1)) = W1 at *
  (refine wp_region_held_drew (S := (fun W => W.cell? ⟨R.tb, i * 3 + 1, none⟩ = some (.slice (some ⟨R.rb i, 0, none⟩) 4 (4 + R.rk i)) ∧ W.cell? ⟨R.bk, 0, none⟩ = some (.slice (some ⟨R.cb, 0, none⟩) R.wd R.cc) ∧ W.cell? ⟨g, 1, none⟩ = some (.int .i64 j) ∧ W.cell? ⟨g, 2, none⟩ = some (.int .i64 k) ∧ W.cell? ⟨R.cb, j, none⟩ = some (.int .u64 (s.wo j)))) (by kernel_rfl) ⟨H1.out.p.t1 i hi, H1.out.p.p0, H1.out.bx 1 _ rfl, H1.out.bx 2 _ rfl, H1.out.p.ce j hj⟩ (fun hHeld => ?_); simp only [List.size_toArray, List.length_cons, List.length_nil, Nat.reduceAdd, Array.replicate_succ, Array.replicate_zero, List.push_toArray, List.append_toArray, List.nil_append, List.cons_append])
  refine rgT 0 (h := ?_)
  refine rgT 1 (h := ?_)
  refine rgT 2 (h := ?_)
  refine rgT 3 (h := ?_)
  refine rgT 4 (h := ?_)
  refine rgT 5 (h := ?_)
  refine rgT 6 (h := ?_)
  refine rgT 7 (h := ?_)
  refine rgT 8 (h := ?_)
  refine rgT 9 (h := ?_)
  refine rgT 10 (h := ?_)
  refine rgT 11 (h := ?_)
  refine rgT 12 (h := ?_)
  refine rgT 13 (h := ?_)
  refine rgT 14 (h := ?_)
  have c4 := H1.out.drew.p.rg i k hi hk
  have f4 := H1.out.drew.p.fz (R.rb i) k (.inr (.inr ⟨i, hi, rfl⟩))
  (refine rgS 15 (h := fun K hK => ?_); go_simp)
  have H2 : Hid (Rk w (W1.setCell ⟨R.rb i, k, none⟩ (.int .u64 (s.wo j))).drew R ⟨s.wo, upd s.rg i (upd (s.rg i) k (s.wo j)), upd s.pl i (pl + 1)⟩ g ⟨1, j, k, nr, ni, orr, oi, n⟩) := (H1.out.put (.inr (.inr ⟨i, hi, rfl⟩)) (H1.out.p.setRg hR i k (s.wo j) hi hk)).drew
  clear H1 c4 f4
  (refine hK.out _ _ ⟨H2.out.p.t1 i hi, H2.out.p.p0, H2.out.bx 1 _ rfl, H2.out.bx 2 _ rfl, H2.out.p.ce j hj⟩ (fun hHeld => ?_); clear hK K; try simp only [Act.put, List.setIfInBounds_toArray, List.set_cons_zero, List.set_cons_succ])
  refine wpAnyH_done (by kernel_rfl) ?_ _
  generalize (W1.setCell ⟨R.rb i, k, none⟩ (.int .u64 (s.wo j))).drew = W9 at *
  go_wp2_with fail
  (refine wp_region_held_drew (S := (fun W => W.cell? ⟨R.tb, i * 3 + 2, none⟩ = some (.int .i64 ((pl + 1 : Nat) : Int)) ∧ W.cell? ⟨R.tb, i * 3, none⟩ = some (.slice (some ⟨ib, 0, none⟩) m (R.icap i)))) (by kernel_rfl) ⟨H2.out.p.t2' hi, H2.out.p.t0' hi hia hml⟩ (fun hHeld => ?_); simp only [List.size_toArray, List.length_cons, List.length_nil, Nat.reduceAdd, Array.replicate_succ, Array.replicate_zero, List.push_toArray, List.append_toArray, List.nil_append, List.cons_append])
  refine rgT 0 (h := ?_)
  refine rgT 1 (h := ?_)
  refine rgT 2 (h := ?_)
  refine rgT 3 (h := ?_)
  refine rgT 4 (h := ?_)
  refine rgT 5 (h := ?_)
  refine rgT 6 (h := ?_)
  refine rgT 7 (h := ?_)
  refine rgT 8 (h := ?_)
  refine rgT 9 (h := ?_)
  refine rgT 10 (h := ?_)
  refine wpAnyH_done (by kernel_rfl) ?_ _
  go_wp2
  go_ret
  have e1 : decide ((m : Int) ≤ (((pl + 1 : Nat)) : Int)) = decide (m ≤ pl + 1) := by congr 1; exact propext ⟨fun h => by omega, fun h => by omega⟩
  exact ⟨by simpa using e1, H2.out.drew.p, H2.out.drew.k⟩
theorem rstep_2 (R : Rd) (hR : RdOk R) (w : World) (s : Ls) (h : RP R w s) (i : Nat) (hi : i < R.n) (pl m ib : Nat) (c r nr ni orr oi n : Int) (hia : R.ia i = some ⟨ib, 0, none⟩) (hml : (R.ins i).length = m) (h8 : In8 w ib pl 2 c r nr ni orr oi n) (hpl : pl < m) (hm : m ≤ 1000) (hps : s.pl i = pl) (c0 : 0 ≤ c) (c1 : c < (R.wd : Int)) (hv : nr ≤ 3) :
    Calls Tryz.prog 69 #[.pointer (some ⟨R.bk, 0, none⟩), .int .i64 (i : Int)] w fun e w' => e = .returned (.bool (decide (m ≤ pl + 1))) ∧ RP R w' ⟨upd s.wo c.toNat (valP (s.rg i) nr ni), s.rg, upd s.pl i (pl + 1)⟩ ∧ Keeps (fRw R) w w' := by
  obtain ⟨j, rfl⟩ : ∃ j : Nat, c = (j : Int) := ⟨c.toNat, by omega⟩
  have hj : j < R.wd := by omega
  have ej : ((j : Int)).toNat = j := by omega
  rw [ej]
  have j0 : (0 : Int) ≤ (j : Int) := Int.natCast_nonneg _
  obtain ⟨fr, hfr⟩ : ∃ x, x = valP (s.rg i) nr ni := ⟨_, rfl⟩
  rw [← hfr]
  have Hfr : Hid (fr = valP (s.rg i) nr ni) := hfr
  clear hfr
  have p1 := h.p1
  have i0 : (0 : Int) ≤ (i : Int) := Int.natCast_nonneg _
  have i1 : (i : Int) < (R.n : Int) := by omega
  have hp0 : (0 : Int) ≤ (pl : Int) := Int.natCast_nonneg _
  have hp1 : (pl : Int) < (m : Int) := by omega
  have hlt : ¬ (m : Int) ≤ (pl : Int) := by omega
  have ht2 := h.t2 i hi
  rw [hps] at ht2
  have ht0 := h.t0' hi hia hml
  have H : Hid (RP R w s ∧ w.cell? ⟨R.tb, i * 3 + 2, none⟩ = some (.int .i64 (pl : Int)) ∧ w.cell? ⟨R.tb, i * 3, none⟩ = some (.slice (some ⟨ib, 0, none⟩) m (R.icap i))) := ⟨h, ht2, ht0⟩
  have HA : Hid (∀ W, Keeps (fun _ => False) w W → W.cell? ⟨R.tb, i * 3 + 2, none⟩ = some (.int .i64 (pl : Int)) ∧ W.cell? ⟨R.tb, i * 3, none⟩ = some (.slice (some ⟨ib, 0, none⟩) m (R.icap i)) ∧ W.cell? ⟨ib, pl * 8, none⟩ = some (.int .i64 2) ∧ W.cell? ⟨ib, pl * 8 + 1, none⟩ = some (.int .i64 j) ∧ W.cell? ⟨ib, pl * 8 + 2, none⟩ = some (.int .i64 r) ∧ W.cell? ⟨ib, pl * 8 + 3, none⟩ = some (.int .i64 nr) ∧ W.cell? ⟨ib, pl * 8 + 4, none⟩ = some (.int .u64 ni) ∧ W.cell? ⟨ib, pl * 8 + 5, none⟩ = some (.int .i64 orr) ∧ W.cell? ⟨ib, pl * 8 + 6, none⟩ = some (.int .u64 oi) ∧ W.cell? ⟨ib, pl * 8 + 7, none⟩ = some (.int .i64 n)) := fun W k => by
    have q := h8.keeps k (fun e => e)
    exact ⟨((k.cell (p := ⟨R.tb, i * 3 + 2, none⟩) (h.lt _ (.inl (.inl rfl))) (fun e => e))).trans ht2, ((k.cell (p := ⟨R.tb, i * 3, none⟩) (h.lt _ (.inl (.inl rfl))) (fun e => e))).trans ht0, q.c0, q.c1, q.c2, q.c3, q.c4, q.c5, q.c6, q.c7⟩
  have HS : Hid (Rk w (w.alloc (.cells (iV ⟨2, j, r, nr, ni, orr, oi, n⟩) 106)).drew.drew R s w.heap.size ⟨2, j, r, nr, ni, orr, oi, n⟩) := (Rk.start _ h).drew.drew
  clear h ht2 ht0 h8
  go_enter Tryz.func69, Tryz.ntmps69
  go_wp2_with fail
  (refine wp_region_held_drew (S := (fun W => W.cell? ⟨R.tb, i * 3 + 2, none⟩ = some (.int .i64 (pl : Int)) ∧ W.cell? ⟨R.tb, i * 3, none⟩ = some (.slice (some ⟨ib, 0, none⟩) m (R.icap i)))) (by kernel_rfl) ⟨H.out.2.1, H.out.2.2⟩ (fun hHeld => ?_); simp only [List.size_toArray, List.length_cons, List.length_nil, Nat.reduceAdd, Array.replicate_succ, Array.replicate_zero, List.push_toArray, List.append_toArray, List.nil_append, List.cons_append])
  refine rgT 0 (h := ?_)
  refine rgT 1 (h := ?_)
  refine rgT 2 (h := ?_)
  refine rgT 3 (h := ?_)
  refine rgT 4 (h := ?_)
  refine rgT 5 (h := ?_)
  refine rgT 6 (h := ?_)
  refine rgT 7 (h := ?_)
  refine rgT 8 (h := ?_)
  refine rgT 9 (h := ?_)
  refine wpAnyH_done (by kernel_rfl) ?_ _
  go_wp2_with fail
  (refine wp_region_held_drew (S := (fun W => W.cell? ⟨R.tb, i * 3 + 2, none⟩ = some (.int .i64 (pl : Int)) ∧ W.cell? ⟨R.tb, i * 3, none⟩ = some (.slice (some ⟨ib, 0, none⟩) m (R.icap i)) ∧ W.cell? ⟨ib, pl * 8, none⟩ = some (.int .i64 2) ∧ W.cell? ⟨ib, pl * 8 + 1, none⟩ = some (.int .i64 j) ∧ W.cell? ⟨ib, pl * 8 + 2, none⟩ = some (.int .i64 r) ∧ W.cell? ⟨ib, pl * 8 + 3, none⟩ = some (.int .i64 nr) ∧ W.cell? ⟨ib, pl * 8 + 4, none⟩ = some (.int .u64 ni) ∧ W.cell? ⟨ib, pl * 8 + 5, none⟩ = some (.int .i64 orr) ∧ W.cell? ⟨ib, pl * 8 + 6, none⟩ = some (.int .u64 oi) ∧ W.cell? ⟨ib, pl * 8 + 7, none⟩ = some (.int .i64 n))) (by kernel_rfl) (HA.out _ (Keeps.refl _ _).drew.drew) (fun hHeld => ?_); simp only [List.size_toArray, List.length_cons, List.length_nil, Nat.reduceAdd, Array.replicate_succ, Array.replicate_zero, List.push_toArray, List.append_toArray, List.nil_append, List.cons_append])
  refine rgT 0 (h := ?_)
  refine rgT 1 (h := ?_)
  refine rgT 2 (h := ?_)
  refine rgT 3 (h := ?_)
  refine rgT 4 (h := ?_)
  refine rgT 5 (h := ?_)
  refine rgT 6 (h := ?_)
  refine rgT 7 (h := ?_)
  refine rgT 8 (h := ?_)
  refine rgT 9 (h := ?_)
  (refine rgS 10 (h := fun K hK => ?_); go_simp)
  (refine hK.out _ _ (HA.out _ ((Keeps.refl _ _).alloc _).drew.drew) (fun hHeld => ?_); clear hK K; try simp only [Act.put, List.setIfInBounds_toArray, List.set_cons_zero, List.set_cons_succ])
  (refine rgS 11 (h := fun K hK => ?_); go_simp)
  (refine hK.out _ _ (HA.out _ ((Keeps.refl _ _).alloc _).drew.drew) (fun hHeld => ?_); clear hK K; try simp only [Act.put, List.setIfInBounds_toArray, List.set_cons_zero, List.set_cons_succ])
  refine wpAnyH_done (by kernel_rfl) ?_ _
  clear H HA p1 hlt hp0 hp1
  change Hid (Rk w (w.alloc (.cells #[.int .i64 2, .int .i64 j, .int .i64 r, .int .i64 nr, .int .u64 ni, .int .i64 orr, .int .u64 oi, .int .i64 n] 106)).drew.drew R s w.heap.size ⟨2, j, r, nr, ni, orr, oi, n⟩) at HS
  generalize (w.alloc (.cells #[.int .i64 2, .int .i64 j, .int .i64 r, .int .i64 nr, .int .u64 ni, .int .i64 orr, .int .u64 oi, .int .i64 n] 106)).drew.drew = W0 at *
  generalize w.heap.size = g at *
  have t2 := HS.out.p.t2 i hi
  rw [hps] at t2
  have f2 := HS.out.p.fz R.tb (i * 3 + 2) (.inl rfl)
  have b0 := HS.out.bx 0 _ rfl
  have hw1 : (pl : Int) + 1 = ((pl + 1 : Nat) : Int) := by omega
  have H1 : Hid (Rk w (W0.setCell ⟨R.tb, i * 3 + 2, none⟩ (.int .i64 ((pl : Int) + 1))) R ⟨s.wo, s.rg, upd s.pl i (pl + 1)⟩ g ⟨2, j, r, nr, ni, orr, oi, n⟩) := by
    rw [hw1]
    exact HS.out.put (.inl rfl) (HS.out.p.setPl hR i (pl + 1) hi)
  clear hw1
  have nb : (⟨R.tb, i * 3 + 2, none⟩ : Addr) ≠ ⟨g, 0, none⟩ := fun e => HS.out.ng (.inl (.inl (congrArg Addr.block e).symm))
  have b1 := H1.out.bx 0 _ rfl
  go_wp2_with fail
  clear t2 f2 b0 nb b1 HS
  generalize W0.setCell ⟨R.tb, i * 3 + 2, none⟩ (.int .i64 ((pl : Int) + 1)) = W1 at *
  (refine wp_region_held_drew (S := (fun W => W.cell? ⟨g, 3, none⟩ = some (.int .i64 nr) ∧ W.cell? ⟨g, 4, none⟩ = some (.int .u64 ni) ∧ W.cell? ⟨R.tb, i * 3 + 1, none⟩ = some (.slice (some ⟨R.rb i, 0, none⟩) 4 (4 + R.rk i)))) (by kernel_rfl) ⟨H1.out.bx 3 _ rfl, H1.out.bx 4 _ rfl, H1.out.p.t1 i hi⟩ (fun hHeld => ?_); simp only [List.size_toArray, List.length_cons, List.length_nil, Nat.reduceAdd, Array.replicate_succ, Array.replicate_zero, List.push_toArray, List.append_toArray, List.nil_append, List.cons_append])
  refine rgT 0 (h := ?_)
  refine rgT 1 (h := ?_)
  refine rgT 2 (h := ?_)
  refine rgT 3 (h := ?_)
  refine rgT 4 (h := ?_)
  refine rgT 5 (h := ?_)
  (refine rgS 6 (h := fun K hK => ?_); go_simp)
  refine (rvalue_any W1.drew R ⟨s.wo, s.rg, upd s.pl i (pl + 1)⟩ H1.out.drew.p i hi nr ni hv).mono ?_
  rintro e W2 ⟨he, k2⟩
  have he' : e = .returned (.int .u64 fr) := by rw [Hfr.out]; exact he
  subst he'
  have H2 : Hid (Rk w W2 R ⟨s.wo, s.rg, upd s.pl i (pl + 1)⟩ g ⟨2, j, r, nr, ni, orr, oi, n⟩) := H1.out.drew.still k2
  clear H1 k2 he
  (refine hK.out _ _ ⟨H2.out.bx 3 _ rfl, H2.out.bx 4 _ rfl, H2.out.p.t1 i hi⟩ (fun hHeld => ?_); clear hK K; try simp only [Act.put, List.setIfInBounds_toArray, List.set_cons_zero, List.set_cons_succ])
  refine rgT 7 (h := ?_)
  refine wpAnyH_done (by kernel_rfl) ?_ _
  have q0 := H2.out.bx 0 _ rfl
  go_wp2_with fail
  clear q0
  (refine wp_region_held_drew (S := (fun W => W.cell? ⟨R.bk, 0, none⟩ = some (.slice (some ⟨R.cb, 0, none⟩) R.wd R.cc) ∧ W.cell? ⟨g, 1, none⟩ = some (.int .i64 j))) (by kernel_rfl) ⟨H2.out.p.p0, H2.out.bx 1 _ rfl⟩ (fun hHeld => ?_); simp only [List.size_toArray, List.length_cons, List.length_nil, Nat.reduceAdd, Array.replicate_succ, Array.replicate_zero, List.push_toArray, List.append_toArray, List.nil_append, List.cons_append])
  refine rgT 0 (h := ?_)
  refine rgT 1 (h := ?_)
  refine rgT 2 (h := ?_)
  refine rgT 3 (h := ?_)
  refine rgT 4 (h := ?_)
  refine rgT 5 (h := ?_)
  refine rgT 6 (h := ?_)
  refine rgT 7 (h := ?_)
  have c4 := H2.out.drew.p.ce j hj
  have f4 := H2.out.drew.p.fz R.cb j (.inr (.inl rfl))
  (refine rgS 8 (h := fun K hK => ?_); go_simp)
  have H3 : Hid (Rk w (W2.setCell ⟨R.cb, j, none⟩ (.int .u64 fr)).drew R ⟨upd s.wo j fr, s.rg, upd s.pl i (pl + 1)⟩ g ⟨2, j, r, nr, ni, orr, oi, n⟩) := (H2.out.put (.inr (.inl rfl)) (H2.out.p.setWo hR j fr hj)).drew
  clear H2 c4 f4
  (refine hK.out _ _ ⟨H3.out.p.p0, H3.out.bx 1 _ rfl⟩ (fun hHeld => ?_); clear hK K; try simp only [Act.put, List.setIfInBounds_toArray, List.set_cons_zero, List.set_cons_succ])
  refine wpAnyH_done (by kernel_rfl) ?_ _
  generalize (W2.setCell ⟨R.cb, j, none⟩ (.int .u64 fr)).drew = W3 at *
  go_wp2_with fail
  (refine wp_region_held_drew (S := (fun W => W.cell? ⟨R.tb, i * 3 + 2, none⟩ = some (.int .i64 ((pl + 1 : Nat) : Int)) ∧ W.cell? ⟨R.tb, i * 3, none⟩ = some (.slice (some ⟨ib, 0, none⟩) m (R.icap i)))) (by kernel_rfl) ⟨H3.out.p.t2' hi, H3.out.p.t0' hi hia hml⟩ (fun hHeld => ?_); simp only [List.size_toArray, List.length_cons, List.length_nil, Nat.reduceAdd, Array.replicate_succ, Array.replicate_zero, List.push_toArray, List.append_toArray, List.nil_append, List.cons_append])
  refine rgT 0 (h := ?_)
  refine rgT 1 (h := ?_)
  refine rgT 2 (h := ?_)
  refine rgT 3 (h := ?_)
  refine rgT 4 (h := ?_)
  refine rgT 5 (h := ?_)
  refine rgT 6 (h := ?_)
  refine rgT 7 (h := ?_)
  refine rgT 8 (h := ?_)
  refine rgT 9 (h := ?_)
  refine rgT 10 (h := ?_)
  refine wpAnyH_done (by kernel_rfl) ?_ _
  go_wp2
  go_ret
  have e1 : decide ((m : Int) ≤ (((pl + 1 : Nat)) : Int)) = decide (m ≤ pl + 1) := by congr 1; exact propext ⟨fun h => by omega, fun h => by omega⟩
  exact ⟨by simpa using e1, H3.out.drew.p, H3.out.drew.k⟩
end Go.Proofs.YtdpebhdjcgiboaaGreat

namespace Go.Proofs.YtdpebhdjcgiboaaGreat
set_option linter.unusedSimpArgs false
open Go.ChangeShapes Go.WideShapes Go.ChangeAt Go.RowKit Go.MuLone Go.RwLone
set_option linter.unusedVariables false
set_option maxRecDepth 100000
set_option maxHeartbeats 3200000
theorem rstep_3h (R : Rd) (hR : RdOk R) (w : World) (s : Ls) (h : RP R w s) (i : Nat) (hi : i < R.n) (pl m ib : Nat) (c r nr ni orr oi n : Int) (hia : R.ia i = some ⟨ib, 0, none⟩) (hml : (R.ins i).length = m) (h8 : In8 w ib pl 3 c r nr ni orr oi n) (hpl : pl < m) (hm : m ≤ 1000) (hps : s.pl i = pl) (c0 : 0 ≤ c) (c1 : c < (R.wd : Int)) (r0 : 0 ≤ r) (r1 : r < 4) (hv : nr ≤ 3) (ho : orr ≤ 3) (hq : s.wo c.toNat = valP (s.rg i) orr oi) :
    Calls Tryz.prog 69 #[.pointer (some ⟨R.bk, 0, none⟩), .int .i64 (i : Int)] w fun e w' => e = .returned (.bool (decide (m ≤ pl + 1))) ∧ RP R w' ⟨upd s.wo c.toNat (valP (s.rg i) nr ni), upd s.rg i (upd (s.rg i) r.toNat 1), upd s.pl i (pl + 1)⟩ ∧ Keeps (fRw R) w w' := by
  obtain ⟨j, rfl⟩ : ∃ j : Nat, c = (j : Int) := ⟨c.toNat, by omega⟩
  have hj : j < R.wd := by omega
  have ej : ((j : Int)).toNat = j := by omega
  rw [ej] at hq ⊢
  have j0 : (0 : Int) ≤ (j : Int) := Int.natCast_nonneg _
  obtain ⟨k, rfl⟩ : ∃ k : Nat, r = (k : Int) := ⟨r.toNat, by omega⟩
  have hk : k < 4 := by omega
  have ek : ((k : Int)).toNat = k := by omega
  rw [ek]
  have hr0 : (0 : Int) ≤ (k : Int) := Int.natCast_nonneg _
  have hr1 : (k : Int) < 4 := by omega
  obtain ⟨fr, hfr⟩ : ∃ x, x = valP (s.rg i) nr ni := ⟨_, rfl⟩
  rw [← hfr]
  have Hfr : Hid (fr = valP (s.rg i) nr ni) := hfr
  clear hfr
  obtain ⟨ol, hol⟩ : ∃ x, x = valP (s.rg i) orr oi := ⟨_, rfl⟩
  rw [← hol] at hq
  have Hol : Hid (ol = valP (s.rg i) orr oi) := hol
  clear hol
  have p1 := h.p1
  have i0 : (0 : Int) ≤ (i : Int) := Int.natCast_nonneg _
  have i1 : (i : Int) < (R.n : Int) := by omega
  have hp0 : (0 : Int) ≤ (pl : Int) := Int.natCast_nonneg _
  have hp1 : (pl : Int) < (m : Int) := by omega
  have hlt : ¬ (m : Int) ≤ (pl : Int) := by omega
  have ht2 := h.t2 i hi
  rw [hps] at ht2
  have ht0 := h.t0' hi hia hml
  have H : Hid (RP R w s ∧ w.cell? ⟨R.tb, i * 3 + 2, none⟩ = some (.int .i64 (pl : Int)) ∧ w.cell? ⟨R.tb, i * 3, none⟩ = some (.slice (some ⟨ib, 0, none⟩) m (R.icap i))) := ⟨h, ht2, ht0⟩
  have HA : Hid (∀ W, Keeps (fun _ => False) w W → W.cell? ⟨R.tb, i * 3 + 2, none⟩ = some (.int .i64 (pl : Int)) ∧ W.cell? ⟨R.tb, i * 3, none⟩ = some (.slice (some ⟨ib, 0, none⟩) m (R.icap i)) ∧ W.cell? ⟨ib, pl * 8, none⟩ = some (.int .i64 3) ∧ W.cell? ⟨ib, pl * 8 + 1, none⟩ = some (.int .i64 j) ∧ W.cell? ⟨ib, pl * 8 + 2, none⟩ = some (.int .i64 k) ∧ W.cell? ⟨ib, pl * 8 + 3, none⟩ = some (.int .i64 nr) ∧ W.cell? ⟨ib, pl * 8 + 4, none⟩ = some (.int .u64 ni) ∧ W.cell? ⟨ib, pl * 8 + 5, none⟩ = some (.int .i64 orr) ∧ W.cell? ⟨ib, pl * 8 + 6, none⟩ = some (.int .u64 oi) ∧ W.cell? ⟨ib, pl * 8 + 7, none⟩ = some (.int .i64 n)) := fun W k => by
    have q := h8.keeps k (fun e => e)
    exact ⟨((k.cell (p := ⟨R.tb, i * 3 + 2, none⟩) (h.lt _ (.inl (.inl rfl))) (fun e => e))).trans ht2, ((k.cell (p := ⟨R.tb, i * 3, none⟩) (h.lt _ (.inl (.inl rfl))) (fun e => e))).trans ht0, q.c0, q.c1, q.c2, q.c3, q.c4, q.c5, q.c6, q.c7⟩
  have HS : Hid (Rk w (w.alloc (.cells (iV ⟨3, j, k, nr, ni, orr, oi, n⟩) 106)).drew.drew R s w.heap.size ⟨3, j, k, nr, ni, orr, oi, n⟩) := (Rk.start _ h).drew.drew
  clear h ht2 ht0 h8
  go_enter Tryz.func69, Tryz.ntmps69
  go_wp2_with fail
  (refine wp_region_held_drew (S := (fun W => W.cell? ⟨R.tb, i * 3 + 2, none⟩ = some (.int .i64 (pl : Int)) ∧ W.cell? ⟨R.tb, i * 3, none⟩ = some (.slice (some ⟨ib, 0, none⟩) m (R.icap i)))) (by kernel_rfl) ⟨H.out.2.1, H.out.2.2⟩ (fun hHeld => ?_); simp only [List.size_toArray, List.length_cons, List.length_nil, Nat.reduceAdd, Array.replicate_succ, Array.replicate_zero, List.push_toArray, List.append_toArray, List.nil_append, List.cons_append])
  refine rgT 0 (h := ?_)
  refine rgT 1 (h := ?_)
  refine rgT 2 (h := ?_)
  refine rgT 3 (h := ?_)
  refine rgT 4 (h := ?_)
  refine rgT 5 (h := ?_)
  refine rgT 6 (h := ?_)
  refine rgT 7 (h := ?_)
  refine rgT 8 (h := ?_)
  refine rgT 9 (h := ?_)
  refine wpAnyH_done (by kernel_rfl) ?_ _
  go_wp2_with fail
  (refine wp_region_held_drew (S := (fun W => W.cell? ⟨R.tb, i * 3 + 2, none⟩ = some (.int .i64 (pl : Int)) ∧ W.cell? ⟨R.tb, i * 3, none⟩ = some (.slice (some ⟨ib, 0, none⟩) m (R.icap i)) ∧ W.cell? ⟨ib, pl * 8, none⟩ = some (.int .i64 3) ∧ W.cell? ⟨ib, pl * 8 + 1, none⟩ = some (.int .i64 j) ∧ W.cell? ⟨ib, pl * 8 + 2, none⟩ = some (.int .i64 k) ∧ W.cell? ⟨ib, pl * 8 + 3, none⟩ = some (.int .i64 nr) ∧ W.cell? ⟨ib, pl * 8 + 4, none⟩ = some (.int .u64 ni) ∧ W.cell? ⟨ib, pl * 8 + 5, none⟩ = some (.int .i64 orr) ∧ W.cell? ⟨ib, pl * 8 + 6, none⟩ = some (.int .u64 oi) ∧ W.cell? ⟨ib, pl * 8 + 7, none⟩ = some (.int .i64 n))) (by kernel_rfl) (HA.out _ (Keeps.refl _ _).drew.drew) (fun hHeld => ?_); simp only [List.size_toArray, List.length_cons, List.length_nil, Nat.reduceAdd, Array.replicate_succ, Array.replicate_zero, List.push_toArray, List.append_toArray, List.nil_append, List.cons_append])
  refine rgT 0 (h := ?_)
  refine rgT 1 (h := ?_)
  refine rgT 2 (h := ?_)
  refine rgT 3 (h := ?_)
  refine rgT 4 (h := ?_)
  refine rgT 5 (h := ?_)
  refine rgT 6 (h := ?_)
  refine rgT 7 (h := ?_)
  refine rgT 8 (h := ?_)
  refine rgT 9 (h := ?_)
  (refine rgS 10 (h := fun K hK => ?_); go_simp)
  (refine hK.out _ _ (HA.out _ ((Keeps.refl _ _).alloc _).drew.drew) (fun hHeld => ?_); clear hK K; try simp only [Act.put, List.setIfInBounds_toArray, List.set_cons_zero, List.set_cons_succ])
  (refine rgS 11 (h := fun K hK => ?_); go_simp)
  (refine hK.out _ _ (HA.out _ ((Keeps.refl _ _).alloc _).drew.drew) (fun hHeld => ?_); clear hK K; try simp only [Act.put, List.setIfInBounds_toArray, List.set_cons_zero, List.set_cons_succ])
  refine wpAnyH_done (by kernel_rfl) ?_ _
  clear H HA p1 hlt hp0 hp1
  change Hid (Rk w (w.alloc (.cells #[.int .i64 3, .int .i64 j, .int .i64 k, .int .i64 nr, .int .u64 ni, .int .i64 orr, .int .u64 oi, .int .i64 n] 106)).drew.drew R s w.heap.size ⟨3, j, k, nr, ni, orr, oi, n⟩) at HS
  generalize (w.alloc (.cells #[.int .i64 3, .int .i64 j, .int .i64 k, .int .i64 nr, .int .u64 ni, .int .i64 orr, .int .u64 oi, .int .i64 n] 106)).drew.drew = W0 at *
  generalize w.heap.size = g at *
  have t2 := HS.out.p.t2 i hi
  rw [hps] at t2
  have f2 := HS.out.p.fz R.tb (i * 3 + 2) (.inl rfl)
  have b0 := HS.out.bx 0 _ rfl
  have hw1 : (pl : Int) + 1 = ((pl + 1 : Nat) : Int) := by omega
  have H1 : Hid (Rk w (W0.setCell ⟨R.tb, i * 3 + 2, none⟩ (.int .i64 ((pl : Int) + 1))) R ⟨s.wo, s.rg, upd s.pl i (pl + 1)⟩ g ⟨3, j, k, nr, ni, orr, oi, n⟩) := by
    rw [hw1]
    exact HS.out.put (.inl rfl) (HS.out.p.setPl hR i (pl + 1) hi)
  clear hw1
  have nb : (⟨R.tb, i * 3 + 2, none⟩ : Addr) ≠ ⟨g, 0, none⟩ := fun e => HS.out.ng (.inl (.inl (congrArg Addr.block e).symm))
  have b1 := H1.out.bx 0 _ rfl
  go_wp2_with fail
  clear t2 f2 b0 nb b1 HS
  generalize W0.setCell ⟨R.tb, i * 3 + 2, none⟩ (.int .i64 ((pl : Int) + 1)) = W1 at *
  (refine wp_region_held_drew (S := (fun W => W.cell? ⟨g, 3, none⟩ = some (.int .i64 nr) ∧ W.cell? ⟨g, 4, none⟩ = some (.int .u64 ni) ∧ W.cell? ⟨R.tb, i * 3 + 1, none⟩ = some (.slice (some ⟨R.rb i, 0, none⟩) 4 (4 + R.rk i)))) (by kernel_rfl) ⟨H1.out.bx 3 _ rfl, H1.out.bx 4 _ rfl, H1.out.p.t1 i hi⟩ (fun hHeld => ?_); simp only [List.size_toArray, List.length_cons, List.length_nil, Nat.reduceAdd, Array.replicate_succ, Array.replicate_zero, List.push_toArray, List.append_toArray, List.nil_append, List.cons_append])
  refine rgT 0 (h := ?_)
  refine rgT 1 (h := ?_)
  refine rgT 2 (h := ?_)
  refine rgT 3 (h := ?_)
  refine rgT 4 (h := ?_)
  refine rgT 5 (h := ?_)
  (refine rgS 6 (h := fun K hK => ?_); go_simp)
  refine (rvalue_any W1.drew R ⟨s.wo, s.rg, upd s.pl i (pl + 1)⟩ H1.out.drew.p i hi nr ni hv).mono ?_
  rintro e W2 ⟨he, k2⟩
  have he' : e = .returned (.int .u64 fr) := by rw [Hfr.out]; exact he
  subst he'
  have H2 : Hid (Rk w W2 R ⟨s.wo, s.rg, upd s.pl i (pl + 1)⟩ g ⟨3, j, k, nr, ni, orr, oi, n⟩) := H1.out.drew.still k2
  clear H1 k2 he
  (refine hK.out _ _ ⟨H2.out.bx 3 _ rfl, H2.out.bx 4 _ rfl, H2.out.p.t1 i hi⟩ (fun hHeld => ?_); clear hK K; try simp only [Act.put, List.setIfInBounds_toArray, List.set_cons_zero, List.set_cons_succ])
  refine rgT 7 (h := ?_)
  refine wpAnyH_done (by kernel_rfl) ?_ _
  have q0 := H2.out.bx 0 _ rfl
  go_wp2_with fail
  clear q0
  (refine wp_region_held_drew (S := (fun W => W.cell? ⟨g, 5, none⟩ = some (.int .i64 orr) ∧ W.cell? ⟨g, 6, none⟩ = some (.int .u64 oi) ∧ W.cell? ⟨R.tb, i * 3 + 1, none⟩ = some (.slice (some ⟨R.rb i, 0, none⟩) 4 (4 + R.rk i)))) (by kernel_rfl) ⟨H2.out.bx 5 _ rfl, H2.out.bx 6 _ rfl, H2.out.p.t1 i hi⟩ (fun hHeld => ?_); simp only [List.size_toArray, List.length_cons, List.length_nil, Nat.reduceAdd, Array.replicate_succ, Array.replicate_zero, List.push_toArray, List.append_toArray, List.nil_append, List.cons_append])
  refine rgT 0 (h := ?_)
  refine rgT 1 (h := ?_)
  refine rgT 2 (h := ?_)
  refine rgT 3 (h := ?_)
  refine rgT 4 (h := ?_)
  refine rgT 5 (h := ?_)
  (refine rgS 6 (h := fun K hK => ?_); go_simp)
  refine (rvalue_any W2.drew R ⟨s.wo, s.rg, upd s.pl i (pl + 1)⟩ H2.out.drew.p i hi orr oi ho).mono ?_
  rintro e W3 ⟨he, k2⟩
  have he' : e = .returned (.int .u64 ol) := by rw [Hol.out]; exact he
  subst he'
  have H3 : Hid (Rk w W3 R ⟨s.wo, s.rg, upd s.pl i (pl + 1)⟩ g ⟨3, j, k, nr, ni, orr, oi, n⟩) := H2.out.drew.still k2
  clear H2 k2 he
  (refine hK.out _ _ ⟨H3.out.bx 5 _ rfl, H3.out.bx 6 _ rfl, H3.out.p.t1 i hi⟩ (fun hHeld => ?_); clear hK K; try simp only [Act.put, List.setIfInBounds_toArray, List.set_cons_zero, List.set_cons_succ])
  refine rgT 7 (h := ?_)
  refine wpAnyH_done (by kernel_rfl) ?_ _
  have q0 := H3.out.bx 0 _ rfl
  go_wp2_with fail
  clear q0
  (refine wp_region_held_drew (S := (fun W => W.cell? ⟨R.bk, 0, none⟩ = some (.slice (some ⟨R.cb, 0, none⟩) R.wd R.cc) ∧ W.cell? ⟨g, 1, none⟩ = some (.int .i64 j) ∧ W.cell? ⟨R.cb, j, none⟩ = some (.int .u64 (s.wo j)))) (by kernel_rfl) ⟨H3.out.p.p0, H3.out.bx 1 _ rfl, H3.out.p.ce j hj⟩ (fun hHeld => ?_); simp only [List.size_toArray, List.length_cons, List.length_nil, Nat.reduceAdd, Array.replicate_succ, Array.replicate_zero, List.push_toArray, List.append_toArray, List.nil_append, List.cons_append])
  refine rgT 0 (h := ?_)
  refine rgT 1 (h := ?_)
  refine rgT 2 (h := ?_)
  refine rgT 3 (h := ?_)
  refine rgT 4 (h := ?_)
  refine rgT 5 (h := ?_)
  refine rgT 6 (h := ?_)
  refine rgT 7 (h := ?_)
  refine rgT 8 (h := ?_)
  refine rgT 9 (h := ?_)
  refine wpAnyH_done (by kernel_rfl) ?_ _
  go_wp2_with fail
  have H3d : Hid (Rk w W3.drew R ⟨s.wo, s.rg, upd s.pl i (pl + 1)⟩ g ⟨3, j, k, nr, ni, orr, oi, n⟩) := H3.out.drew
  clear H3
  generalize W3.drew = W4 at *
  (refine wp_region_held_drew (S := (fun W => W.cell? ⟨R.bk, 0, none⟩ = some (.slice (some ⟨R.cb, 0, none⟩) R.wd R.cc) ∧ W.cell? ⟨g, 1, none⟩ = some (.int .i64 j))) (by kernel_rfl) ⟨H3d.out.p.p0, H3d.out.bx 1 _ rfl⟩ (fun hHeld => ?_); simp only [List.size_toArray, List.length_cons, List.length_nil, Nat.reduceAdd, Array.replicate_succ, Array.replicate_zero, List.push_toArray, List.append_toArray, List.nil_append, List.cons_append])
  refine rgT 0 (h := ?_)
  refine rgT 1 (h := ?_)
  refine rgT 2 (h := ?_)
  refine rgT 3 (h := ?_)
  refine rgT 4 (h := ?_)
  refine rgT 5 (h := ?_)
  refine rgT 6 (h := ?_)
  refine rgT 7 (h := ?_)
  have c4 := H3d.out.drew.p.ce j hj
  have f4 := H3d.out.drew.p.fz R.cb j (.inr (.inl rfl))
  (refine rgS 8 (h := fun K hK => ?_); go_simp)
  have H5 : Hid (Rk w (W4.setCell ⟨R.cb, j, none⟩ (.int .u64 fr)).drew R ⟨upd s.wo j fr, s.rg, upd s.pl i (pl + 1)⟩ g ⟨3, j, k, nr, ni, orr, oi, n⟩) := (H3d.out.put (.inr (.inl rfl)) (H3d.out.p.setWo hR j fr hj)).drew
  clear H3d c4 f4
  (refine hK.out _ _ ⟨H5.out.p.p0, H5.out.bx 1 _ rfl⟩ (fun hHeld => ?_); clear hK K; try simp only [Act.put, List.setIfInBounds_toArray, List.set_cons_zero, List.set_cons_succ])
  refine wpAnyH_done (by kernel_rfl) ?_ _
  generalize (W4.setCell ⟨R.cb, j, none⟩ (.int .u64 fr)).drew = W5 at *
  go_wp2_with fail
  (refine wp_region_held_drew (S := (fun W => W.cell? ⟨R.tb, i * 3 + 1, none⟩ = some (.slice (some ⟨R.rb i, 0, none⟩) 4 (4 + R.rk i)) ∧ W.cell? ⟨g, 2, none⟩ = some (.int .i64 k))) (by kernel_rfl) ⟨H5.out.p.t1 i hi, H5.out.bx 2 _ rfl⟩ (fun hHeld => ?_); simp only [List.size_toArray, List.length_cons, List.length_nil, Nat.reduceAdd, Array.replicate_succ, Array.replicate_zero, List.push_toArray, List.append_toArray, List.nil_append, List.cons_append])
  refine rgT 0 (h := ?_)
  refine rgT 1 (h := ?_)
  refine rgT 2 (h := ?_)
  refine rgT 3 (h := ?_)
  refine rgT 4 (h := ?_)
  refine rgT 5 (h := ?_)
  refine rgT 6 (h := ?_)
  have c4 := H5.out.drew.p.rg i k hi hk
  have f4 := H5.out.drew.p.fz (R.rb i) k (.inr (.inr ⟨i, hi, rfl⟩))
  (refine rgS 7 (h := fun K hK => ?_); go_simp)
  have H6 : Hid (Rk w (W5.setCell ⟨R.rb i, k, none⟩ (.int .u64 1)).drew R ⟨upd s.wo j fr, upd s.rg i (upd (s.rg i) k 1), upd s.pl i (pl + 1)⟩ g ⟨3, j, k, nr, ni, orr, oi, n⟩) := (H5.out.put (.inr (.inr ⟨i, hi, rfl⟩)) (H5.out.p.setRg hR i k 1 hi hk)).drew
  clear H5 c4 f4
  (refine hK.out _ _ ⟨H6.out.p.t1 i hi, H6.out.bx 2 _ rfl⟩ (fun hHeld => ?_); clear hK K; try simp only [Act.put, List.setIfInBounds_toArray, List.set_cons_zero, List.set_cons_succ])
  refine wpAnyH_done (by kernel_rfl) ?_ _
  generalize (W5.setCell ⟨R.rb i, k, none⟩ (.int .u64 1)).drew = W6 at *
  go_wp2_with fail
  (refine wp_region_held_drew (S := (fun W => W.cell? ⟨R.tb, i * 3 + 2, none⟩ = some (.int .i64 ((pl + 1 : Nat) : Int)) ∧ W.cell? ⟨R.tb, i * 3, none⟩ = some (.slice (some ⟨ib, 0, none⟩) m (R.icap i)))) (by kernel_rfl) ⟨H6.out.p.t2' hi, H6.out.p.t0' hi hia hml⟩ (fun hHeld => ?_); simp only [List.size_toArray, List.length_cons, List.length_nil, Nat.reduceAdd, Array.replicate_succ, Array.replicate_zero, List.push_toArray, List.append_toArray, List.nil_append, List.cons_append])
  refine rgT 0 (h := ?_)
  refine rgT 1 (h := ?_)
  refine rgT 2 (h := ?_)
  refine rgT 3 (h := ?_)
  refine rgT 4 (h := ?_)
  refine rgT 5 (h := ?_)
  refine rgT 6 (h := ?_)
  refine rgT 7 (h := ?_)
  refine rgT 8 (h := ?_)
  refine rgT 9 (h := ?_)
  refine rgT 10 (h := ?_)
  refine wpAnyH_done (by kernel_rfl) ?_ _
  go_wp2
  go_ret
  have e1 : decide ((m : Int) ≤ (((pl + 1 : Nat)) : Int)) = decide (m ≤ pl + 1) := by congr 1; exact propext ⟨fun h => by omega, fun h => by omega⟩
  exact ⟨by simpa using e1, H6.out.drew.p, H6.out.drew.k⟩
theorem rstep_3m (R : Rd) (hR : RdOk R) (w : World) (s : Ls) (h : RP R w s) (i : Nat) (hi : i < R.n) (pl m ib : Nat) (c r nr ni orr oi n : Int) (hia : R.ia i = some ⟨ib, 0, none⟩) (hml : (R.ins i).length = m) (h8 : In8 w ib pl 3 c r nr ni orr oi n) (hpl : pl < m) (hm : m ≤ 1000) (hps : s.pl i = pl) (c0 : 0 ≤ c) (c1 : c < (R.wd : Int)) (r0 : 0 ≤ r) (r1 : r < 4) (hv : nr ≤ 3) (ho : orr ≤ 3) (hq : ¬ s.wo c.toNat = valP (s.rg i) orr oi) :
    Calls Tryz.prog 69 #[.pointer (some ⟨R.bk, 0, none⟩), .int .i64 (i : Int)] w fun e w' => e = .returned (.bool (decide (m ≤ pl + 1))) ∧ RP R w' ⟨s.wo, upd s.rg i (upd (s.rg i) r.toNat 0), upd s.pl i (pl + 1)⟩ ∧ Keeps (fRw R) w w' := by
  obtain ⟨j, rfl⟩ : ∃ j : Nat, c = (j : Int) := ⟨c.toNat, by omega⟩
  have hj : j < R.wd := by omega
  have ej : ((j : Int)).toNat = j := by omega
  rw [ej] at hq
  have j0 : (0 : Int) ≤ (j : Int) := Int.natCast_nonneg _
  obtain ⟨k, rfl⟩ : ∃ k : Nat, r = (k : Int) := ⟨r.toNat, by omega⟩
  have hk : k < 4 := by omega
  have ek : ((k : Int)).toNat = k := by omega
  rw [ek]
  have hr0 : (0 : Int) ≤ (k : Int) := Int.natCast_nonneg _
  have hr1 : (k : Int) < 4 := by omega
  obtain ⟨fr, hfr⟩ : ∃ x, x = valP (s.rg i) nr ni := ⟨_, rfl⟩
  have Hfr : Hid (fr = valP (s.rg i) nr ni) := hfr
  clear hfr
  obtain ⟨ol, hol⟩ : ∃ x, x = valP (s.rg i) orr oi := ⟨_, rfl⟩
  rw [← hol] at hq
  have Hol : Hid (ol = valP (s.rg i) orr oi) := hol
  clear hol
  have p1 := h.p1
  have i0 : (0 : Int) ≤ (i : Int) := Int.natCast_nonneg _
  have i1 : (i : Int) < (R.n : Int) := by omega
  have hp0 : (0 : Int) ≤ (pl : Int) := Int.natCast_nonneg _
  have hp1 : (pl : Int) < (m : Int) := by omega
  have hlt : ¬ (m : Int) ≤ (pl : Int) := by omega
  have ht2 := h.t2 i hi
  rw [hps] at ht2
  have ht0 := h.t0' hi hia hml
  have H : Hid (RP R w s ∧ w.cell? ⟨R.tb, i * 3 + 2, none⟩ = some (.int .i64 (pl : Int)) ∧ w.cell? ⟨R.tb, i * 3, none⟩ = some (.slice (some ⟨ib, 0, none⟩) m (R.icap i))) := ⟨h, ht2, ht0⟩
  have HA : Hid (∀ W, Keeps (fun _ => False) w W → W.cell? ⟨R.tb, i * 3 + 2, none⟩ = some (.int .i64 (pl : Int)) ∧ W.cell? ⟨R.tb, i * 3, none⟩ = some (.slice (some ⟨ib, 0, none⟩) m (R.icap i)) ∧ W.cell? ⟨ib, pl * 8, none⟩ = some (.int .i64 3) ∧ W.cell? ⟨ib, pl * 8 + 1, none⟩ = some (.int .i64 j) ∧ W.cell? ⟨ib, pl * 8 + 2, none⟩ = some (.int .i64 k) ∧ W.cell? ⟨ib, pl * 8 + 3, none⟩ = some (.int .i64 nr) ∧ W.cell? ⟨ib, pl * 8 + 4, none⟩ = some (.int .u64 ni) ∧ W.cell? ⟨ib, pl * 8 + 5, none⟩ = some (.int .i64 orr) ∧ W.cell? ⟨ib, pl * 8 + 6, none⟩ = some (.int .u64 oi) ∧ W.cell? ⟨ib, pl * 8 + 7, none⟩ = some (.int .i64 n)) := fun W k => by
    have q := h8.keeps k (fun e => e)
    exact ⟨((k.cell (p := ⟨R.tb, i * 3 + 2, none⟩) (h.lt _ (.inl (.inl rfl))) (fun e => e))).trans ht2, ((k.cell (p := ⟨R.tb, i * 3, none⟩) (h.lt _ (.inl (.inl rfl))) (fun e => e))).trans ht0, q.c0, q.c1, q.c2, q.c3, q.c4, q.c5, q.c6, q.c7⟩
  have HS : Hid (Rk w (w.alloc (.cells (iV ⟨3, j, k, nr, ni, orr, oi, n⟩) 106)).drew.drew R s w.heap.size ⟨3, j, k, nr, ni, orr, oi, n⟩) := (Rk.start _ h).drew.drew
  clear h ht2 ht0 h8
  go_enter Tryz.func69, Tryz.ntmps69
  go_wp2_with fail
  (refine wp_region_held_drew (S := (fun W => W.cell? ⟨R.tb, i * 3 + 2, none⟩ = some (.int .i64 (pl : Int)) ∧ W.cell? ⟨R.tb, i * 3, none⟩ = some (.slice (some ⟨ib, 0, none⟩) m (R.icap i)))) (by kernel_rfl) ⟨H.out.2.1, H.out.2.2⟩ (fun hHeld => ?_); simp only [List.size_toArray, List.length_cons, List.length_nil, Nat.reduceAdd, Array.replicate_succ, Array.replicate_zero, List.push_toArray, List.append_toArray, List.nil_append, List.cons_append])
  refine rgT 0 (h := ?_)
  refine rgT 1 (h := ?_)
  refine rgT 2 (h := ?_)
  refine rgT 3 (h := ?_)
  refine rgT 4 (h := ?_)
  refine rgT 5 (h := ?_)
  refine rgT 6 (h := ?_)
  refine rgT 7 (h := ?_)
  refine rgT 8 (h := ?_)
  refine rgT 9 (h := ?_)
  refine wpAnyH_done (by kernel_rfl) ?_ _
  go_wp2_with fail
  (refine wp_region_held_drew (S := (fun W => W.cell? ⟨R.tb, i * 3 + 2, none⟩ = some (.int .i64 (pl : Int)) ∧ W.cell? ⟨R.tb, i * 3, none⟩ = some (.slice (some ⟨ib, 0, none⟩) m (R.icap i)) ∧ W.cell? ⟨ib, pl * 8, none⟩ = some (.int .i64 3) ∧ W.cell? ⟨ib, pl * 8 + 1, none⟩ = some (.int .i64 j) ∧ W.cell? ⟨ib, pl * 8 + 2, none⟩ = some (.int .i64 k) ∧ W.cell? ⟨ib, pl * 8 + 3, none⟩ = some (.int .i64 nr) ∧ W.cell? ⟨ib, pl * 8 + 4, none⟩ = some (.int .u64 ni) ∧ W.cell? ⟨ib, pl * 8 + 5, none⟩ = some (.int .i64 orr) ∧ W.cell? ⟨ib, pl * 8 + 6, none⟩ = some (.int .u64 oi) ∧ W.cell? ⟨ib, pl * 8 + 7, none⟩ = some (.int .i64 n))) (by kernel_rfl) (HA.out _ (Keeps.refl _ _).drew.drew) (fun hHeld => ?_); simp only [List.size_toArray, List.length_cons, List.length_nil, Nat.reduceAdd, Array.replicate_succ, Array.replicate_zero, List.push_toArray, List.append_toArray, List.nil_append, List.cons_append])
  refine rgT 0 (h := ?_)
  refine rgT 1 (h := ?_)
  refine rgT 2 (h := ?_)
  refine rgT 3 (h := ?_)
  refine rgT 4 (h := ?_)
  refine rgT 5 (h := ?_)
  refine rgT 6 (h := ?_)
  refine rgT 7 (h := ?_)
  refine rgT 8 (h := ?_)
  refine rgT 9 (h := ?_)
  (refine rgS 10 (h := fun K hK => ?_); go_simp)
  (refine hK.out _ _ (HA.out _ ((Keeps.refl _ _).alloc _).drew.drew) (fun hHeld => ?_); clear hK K; try simp only [Act.put, List.setIfInBounds_toArray, List.set_cons_zero, List.set_cons_succ])
  (refine rgS 11 (h := fun K hK => ?_); go_simp)
  (refine hK.out _ _ (HA.out _ ((Keeps.refl _ _).alloc _).drew.drew) (fun hHeld => ?_); clear hK K; try simp only [Act.put, List.setIfInBounds_toArray, List.set_cons_zero, List.set_cons_succ])
  refine wpAnyH_done (by kernel_rfl) ?_ _
  clear H HA p1 hlt hp0 hp1
  change Hid (Rk w (w.alloc (.cells #[.int .i64 3, .int .i64 j, .int .i64 k, .int .i64 nr, .int .u64 ni, .int .i64 orr, .int .u64 oi, .int .i64 n] 106)).drew.drew R s w.heap.size ⟨3, j, k, nr, ni, orr, oi, n⟩) at HS
  generalize (w.alloc (.cells #[.int .i64 3, .int .i64 j, .int .i64 k, .int .i64 nr, .int .u64 ni, .int .i64 orr, .int .u64 oi, .int .i64 n] 106)).drew.drew = W0 at *
  generalize w.heap.size = g at *
  have t2 := HS.out.p.t2 i hi
  rw [hps] at t2
  have f2 := HS.out.p.fz R.tb (i * 3 + 2) (.inl rfl)
  have b0 := HS.out.bx 0 _ rfl
  have hw1 : (pl : Int) + 1 = ((pl + 1 : Nat) : Int) := by omega
  have H1 : Hid (Rk w (W0.setCell ⟨R.tb, i * 3 + 2, none⟩ (.int .i64 ((pl : Int) + 1))) R ⟨s.wo, s.rg, upd s.pl i (pl + 1)⟩ g ⟨3, j, k, nr, ni, orr, oi, n⟩) := by
    rw [hw1]
    exact HS.out.put (.inl rfl) (HS.out.p.setPl hR i (pl + 1) hi)
  clear hw1
  have nb : (⟨R.tb, i * 3 + 2, none⟩ : Addr) ≠ ⟨g, 0, none⟩ := fun e => HS.out.ng (.inl (.inl (congrArg Addr.block e).symm))
  have b1 := H1.out.bx 0 _ rfl
  go_wp2_with fail
  clear t2 f2 b0 nb b1 HS
  generalize W0.setCell ⟨R.tb, i * 3 + 2, none⟩ (.int .i64 ((pl : Int) + 1)) = W1 at *
  (refine wp_region_held_drew (S := (fun W => W.cell? ⟨g, 3, none⟩ = some (.int .i64 nr) ∧ W.cell? ⟨g, 4, none⟩ = some (.int .u64 ni) ∧ W.cell? ⟨R.tb, i * 3 + 1, none⟩ = some (.slice (some ⟨R.rb i, 0, none⟩) 4 (4 + R.rk i)))) (by kernel_rfl) ⟨H1.out.bx 3 _ rfl, H1.out.bx 4 _ rfl, H1.out.p.t1 i hi⟩ (fun hHeld => ?_); simp only [List.size_toArray, List.length_cons, List.length_nil, Nat.reduceAdd, Array.replicate_succ, Array.replicate_zero, List.push_toArray, List.append_toArray, List.nil_append, List.cons_append])
  refine rgT 0 (h := ?_)
  refine rgT 1 (h := ?_)
  refine rgT 2 (h := ?_)
  refine rgT 3 (h := ?_)
  refine rgT 4 (h := ?_)
  refine rgT 5 (h := ?_)
  (refine rgS 6 (h := fun K hK => ?_); go_simp)
  refine (rvalue_any W1.drew R ⟨s.wo, s.rg, upd s.pl i (pl + 1)⟩ H1.out.drew.p i hi nr ni hv).mono ?_
  rintro e W2 ⟨he, k2⟩
  have he' : e = .returned (.int .u64 fr) := by rw [Hfr.out]; exact he
  subst he'
  have H2 : Hid (Rk w W2 R ⟨s.wo, s.rg, upd s.pl i (pl + 1)⟩ g ⟨3, j, k, nr, ni, orr, oi, n⟩) := H1.out.drew.still k2
  clear H1 k2 he
  (refine hK.out _ _ ⟨H2.out.bx 3 _ rfl, H2.out.bx 4 _ rfl, H2.out.p.t1 i hi⟩ (fun hHeld => ?_); clear hK K; try simp only [Act.put, List.setIfInBounds_toArray, List.set_cons_zero, List.set_cons_succ])
  refine rgT 7 (h := ?_)
  refine wpAnyH_done (by kernel_rfl) ?_ _
  have q0 := H2.out.bx 0 _ rfl
  go_wp2_with fail
  clear q0
  (refine wp_region_held_drew (S := (fun W => W.cell? ⟨g, 5, none⟩ = some (.int .i64 orr) ∧ W.cell? ⟨g, 6, none⟩ = some (.int .u64 oi) ∧ W.cell? ⟨R.tb, i * 3 + 1, none⟩ = some (.slice (some ⟨R.rb i, 0, none⟩) 4 (4 + R.rk i)))) (by kernel_rfl) ⟨H2.out.bx 5 _ rfl, H2.out.bx 6 _ rfl, H2.out.p.t1 i hi⟩ (fun hHeld => ?_); simp only [List.size_toArray, List.length_cons, List.length_nil, Nat.reduceAdd, Array.replicate_succ, Array.replicate_zero, List.push_toArray, List.append_toArray, List.nil_append, List.cons_append])
  refine rgT 0 (h := ?_)
  refine rgT 1 (h := ?_)
  refine rgT 2 (h := ?_)
  refine rgT 3 (h := ?_)
  refine rgT 4 (h := ?_)
  refine rgT 5 (h := ?_)
  (refine rgS 6 (h := fun K hK => ?_); go_simp)
  refine (rvalue_any W2.drew R ⟨s.wo, s.rg, upd s.pl i (pl + 1)⟩ H2.out.drew.p i hi orr oi ho).mono ?_
  rintro e W3 ⟨he, k2⟩
  have he' : e = .returned (.int .u64 ol) := by rw [Hol.out]; exact he
  subst he'
  have H3 : Hid (Rk w W3 R ⟨s.wo, s.rg, upd s.pl i (pl + 1)⟩ g ⟨3, j, k, nr, ni, orr, oi, n⟩) := H2.out.drew.still k2
  clear H2 k2 he
  (refine hK.out _ _ ⟨H3.out.bx 5 _ rfl, H3.out.bx 6 _ rfl, H3.out.p.t1 i hi⟩ (fun hHeld => ?_); clear hK K; try simp only [Act.put, List.setIfInBounds_toArray, List.set_cons_zero, List.set_cons_succ])
  refine rgT 7 (h := ?_)
  refine wpAnyH_done (by kernel_rfl) ?_ _
  have q0 := H3.out.bx 0 _ rfl
  go_wp2_with fail
  clear q0
  (refine wp_region_held_drew (S := (fun W => W.cell? ⟨R.bk, 0, none⟩ = some (.slice (some ⟨R.cb, 0, none⟩) R.wd R.cc) ∧ W.cell? ⟨g, 1, none⟩ = some (.int .i64 j) ∧ W.cell? ⟨R.cb, j, none⟩ = some (.int .u64 (s.wo j)))) (by kernel_rfl) ⟨H3.out.p.p0, H3.out.bx 1 _ rfl, H3.out.p.ce j hj⟩ (fun hHeld => ?_); simp only [List.size_toArray, List.length_cons, List.length_nil, Nat.reduceAdd, Array.replicate_succ, Array.replicate_zero, List.push_toArray, List.append_toArray, List.nil_append, List.cons_append])
  refine rgT 0 (h := ?_)
  refine rgT 1 (h := ?_)
  refine rgT 2 (h := ?_)
  refine rgT 3 (h := ?_)
  refine rgT 4 (h := ?_)
  refine rgT 5 (h := ?_)
  refine rgT 6 (h := ?_)
  refine rgT 7 (h := ?_)
  refine rgT 8 (h := ?_)
  refine rgT 9 (h := ?_)
  refine wpAnyH_done (by kernel_rfl) ?_ _
  go_wp2_with fail
  have H3d : Hid (Rk w W3.drew R ⟨s.wo, s.rg, upd s.pl i (pl + 1)⟩ g ⟨3, j, k, nr, ni, orr, oi, n⟩) := H3.out.drew
  clear H3
  generalize W3.drew = W4 at *
  (refine wp_region_held_drew (S := (fun W => W.cell? ⟨R.tb, i * 3 + 1, none⟩ = some (.slice (some ⟨R.rb i, 0, none⟩) 4 (4 + R.rk i)) ∧ W.cell? ⟨g, 2, none⟩ = some (.int .i64 k))) (by kernel_rfl) ⟨H3d.out.p.t1 i hi, H3d.out.bx 2 _ rfl⟩ (fun hHeld => ?_); simp only [List.size_toArray, List.length_cons, List.length_nil, Nat.reduceAdd, Array.replicate_succ, Array.replicate_zero, List.push_toArray, List.append_toArray, List.nil_append, List.cons_append])
  refine rgT 0 (h := ?_)
  refine rgT 1 (h := ?_)
  refine rgT 2 (h := ?_)
  refine rgT 3 (h := ?_)
  refine rgT 4 (h := ?_)
  refine rgT 5 (h := ?_)
  refine rgT 6 (h := ?_)
  have c4 := H3d.out.drew.p.rg i k hi hk
  have f4 := H3d.out.drew.p.fz (R.rb i) k (.inr (.inr ⟨i, hi, rfl⟩))
  (refine rgS 7 (h := fun K hK => ?_); go_simp)
  have H6 : Hid (Rk w (W4.setCell ⟨R.rb i, k, none⟩ (.int .u64 0)).drew R ⟨s.wo, upd s.rg i (upd (s.rg i) k 0), upd s.pl i (pl + 1)⟩ g ⟨3, j, k, nr, ni, orr, oi, n⟩) := (H3d.out.put (.inr (.inr ⟨i, hi, rfl⟩)) (H3d.out.p.setRg hR i k 0 hi hk)).drew
  clear H3d c4 f4
  (refine hK.out _ _ ⟨H6.out.p.t1 i hi, H6.out.bx 2 _ rfl⟩ (fun hHeld => ?_); clear hK K; try simp only [Act.put, List.setIfInBounds_toArray, List.set_cons_zero, List.set_cons_succ])
  refine wpAnyH_done (by kernel_rfl) ?_ _
  generalize (W4.setCell ⟨R.rb i, k, none⟩ (.int .u64 0)).drew = W6 at *
  go_wp2_with fail
  (refine wp_region_held_drew (S := (fun W => W.cell? ⟨R.tb, i * 3 + 2, none⟩ = some (.int .i64 ((pl + 1 : Nat) : Int)) ∧ W.cell? ⟨R.tb, i * 3, none⟩ = some (.slice (some ⟨ib, 0, none⟩) m (R.icap i)))) (by kernel_rfl) ⟨H6.out.p.t2' hi, H6.out.p.t0' hi hia hml⟩ (fun hHeld => ?_); simp only [List.size_toArray, List.length_cons, List.length_nil, Nat.reduceAdd, Array.replicate_succ, Array.replicate_zero, List.push_toArray, List.append_toArray, List.nil_append, List.cons_append])
  refine rgT 0 (h := ?_)
  refine rgT 1 (h := ?_)
  refine rgT 2 (h := ?_)
  refine rgT 3 (h := ?_)
  refine rgT 4 (h := ?_)
  refine rgT 5 (h := ?_)
  refine rgT 6 (h := ?_)
  refine rgT 7 (h := ?_)
  refine rgT 8 (h := ?_)
  refine rgT 9 (h := ?_)
  refine rgT 10 (h := ?_)
  refine wpAnyH_done (by kernel_rfl) ?_ _
  go_wp2
  go_ret
  have e1 : decide ((m : Int) ≤ (((pl + 1 : Nat)) : Int)) = decide (m ≤ pl + 1) := by congr 1; exact propext ⟨fun h => by omega, fun h => by omega⟩
  exact ⟨by simpa using e1, H6.out.drew.p, H6.out.drew.k⟩
end Go.Proofs.YtdpebhdjcgiboaaGreat

namespace Go.Proofs.YtdpebhdjcgiboaaGreat
set_option linter.unusedSimpArgs false
open Go.ChangeShapes Go.WideShapes Go.ChangeAt Go.RowKit Go.MuLone Go.RwLone
set_option linter.unusedVariables false
set_option maxRecDepth 100000
set_option maxHeartbeats 3200000
theorem rstep_4 (R : Rd) (hR : RdOk R) (w : World) (s : Ls) (h : RP R w s) (i : Nat) (hi : i < R.n) (pl m ib : Nat) (c r nr ni orr oi n : Int) (hia : R.ia i = some ⟨ib, 0, none⟩) (hml : (R.ins i).length = m) (h8 : In8 w ib pl 4 c r nr ni orr oi n) (hpl : pl < m) (hm : m ≤ 1000) (hps : s.pl i = pl) (c0 : 0 ≤ c) (c1 : c < (R.wd : Int)) (r0 : 0 ≤ r) (r1 : r < 4) (hv : nr ≤ 3) :
    Calls Tryz.prog 69 #[.pointer (some ⟨R.bk, 0, none⟩), .int .i64 (i : Int)] w fun e w' => e = .returned (.bool (decide (m ≤ pl + 1))) ∧ RP R w' ⟨upd s.wo c.toNat ((s.wo c.toNat + valP (s.rg i) nr ni) % 18446744073709551616), upd s.rg i (upd (s.rg i) r.toNat (s.wo c.toNat)), upd s.pl i (pl + 1)⟩ ∧ Keeps (fRw R) w w' := by
  obtain ⟨j, rfl⟩ : ∃ j : Nat, c = (j : Int) := ⟨c.toNat, by omega⟩
  have hj : j < R.wd := by omega
  have ej : ((j : Int)).toNat = j := by omega
  rw [ej]
  have j0 : (0 : Int) ≤ (j : Int) := Int.natCast_nonneg _
  obtain ⟨k, rfl⟩ : ∃ k : Nat, r = (k : Int) := ⟨r.toNat, by omega⟩
  have hk : k < 4 := by omega
  have ek : ((k : Int)).toNat = k := by omega
  rw [ek]
  have hr0 : (0 : Int) ≤ (k : Int) := Int.natCast_nonneg _
  have hr1 : (k : Int) < 4 := by omega
  obtain ⟨fr, hfr⟩ : ∃ x, x = valP (s.rg i) nr ni := ⟨_, rfl⟩
  rw [← hfr]
  have Hfr : Hid (fr = valP (s.rg i) nr ni) := hfr
  clear hfr
  have p1 := h.p1
  have i0 : (0 : Int) ≤ (i : Int) := Int.natCast_nonneg _
  have i1 : (i : Int) < (R.n : Int) := by omega
  have hp0 : (0 : Int) ≤ (pl : Int) := Int.natCast_nonneg _
  have hp1 : (pl : Int) < (m : Int) := by omega
  have hlt : ¬ (m : Int) ≤ (pl : Int) := by omega
  have ht2 := h.t2 i hi
  rw [hps] at ht2
  have ht0 := h.t0' hi hia hml
  have H : Hid (RP R w s ∧ w.cell? ⟨R.tb, i * 3 + 2, none⟩ = some (.int .i64 (pl : Int)) ∧ w.cell? ⟨R.tb, i * 3, none⟩ = some (.slice (some ⟨ib, 0, none⟩) m (R.icap i))) := ⟨h, ht2, ht0⟩
  have HA : Hid (∀ W, Keeps (fun _ => False) w W → W.cell? ⟨R.tb, i * 3 + 2, none⟩ = some (.int .i64 (pl : Int)) ∧ W.cell? ⟨R.tb, i * 3, none⟩ = some (.slice (some ⟨ib, 0, none⟩) m (R.icap i)) ∧ W.cell? ⟨ib, pl * 8, none⟩ = some (.int .i64 4) ∧ W.cell? ⟨ib, pl * 8 + 1, none⟩ = some (.int .i64 j) ∧ W.cell? ⟨ib, pl * 8 + 2, none⟩ = some (.int .i64 k) ∧ W.cell? ⟨ib, pl * 8 + 3, none⟩ = some (.int .i64 nr) ∧ W.cell? ⟨ib, pl * 8 + 4, none⟩ = some (.int .u64 ni) ∧ W.cell? ⟨ib, pl * 8 + 5, none⟩ = some (.int .i64 orr) ∧ W.cell? ⟨ib, pl * 8 + 6, none⟩ = some (.int .u64 oi) ∧ W.cell? ⟨ib, pl * 8 + 7, none⟩ = some (.int .i64 n)) := fun W k => by
    have q := h8.keeps k (fun e => e)
    exact ⟨((k.cell (p := ⟨R.tb, i * 3 + 2, none⟩) (h.lt _ (.inl (.inl rfl))) (fun e => e))).trans ht2, ((k.cell (p := ⟨R.tb, i * 3, none⟩) (h.lt _ (.inl (.inl rfl))) (fun e => e))).trans ht0, q.c0, q.c1, q.c2, q.c3, q.c4, q.c5, q.c6, q.c7⟩
  have HS : Hid (Rk w (w.alloc (.cells (iV ⟨4, j, k, nr, ni, orr, oi, n⟩) 106)).drew.drew R s w.heap.size ⟨4, j, k, nr, ni, orr, oi, n⟩) := (Rk.start _ h).drew.drew
  clear h ht2 ht0 h8
  go_enter Tryz.func69, Tryz.ntmps69
  go_wp2_with fail
  (refine wp_region_held_drew (S := (fun W => W.cell? ⟨R.tb, i * 3 + 2, none⟩ = some (.int .i64 (pl : Int)) ∧ W.cell? ⟨R.tb, i * 3, none⟩ = some (.slice (some ⟨ib, 0, none⟩) m (R.icap i)))) (by kernel_rfl) ⟨H.out.2.1, H.out.2.2⟩ (fun hHeld => ?_); simp only [List.size_toArray, List.length_cons, List.length_nil, Nat.reduceAdd, Array.replicate_succ, Array.replicate_zero, List.push_toArray, List.append_toArray, List.nil_append, List.cons_append])
  refine rgT 0 (h := ?_)
  refine rgT 1 (h := ?_)
  refine rgT 2 (h := ?_)
  refine rgT 3 (h := ?_)
  refine rgT 4 (h := ?_)
  refine rgT 5 (h := ?_)
  refine rgT 6 (h := ?_)
  refine rgT 7 (h := ?_)
  refine rgT 8 (h := ?_)
  refine rgT 9 (h := ?_)
  refine wpAnyH_done (by kernel_rfl) ?_ _
  go_wp2_with fail
  (refine wp_region_held_drew (S := (fun W => W.cell? ⟨R.tb, i * 3 + 2, none⟩ = some (.int .i64 (pl : Int)) ∧ W.cell? ⟨R.tb, i * 3, none⟩ = some (.slice (some ⟨ib, 0, none⟩) m (R.icap i)) ∧ W.cell? ⟨ib, pl * 8, none⟩ = some (.int .i64 4) ∧ W.cell? ⟨ib, pl * 8 + 1, none⟩ = some (.int .i64 j) ∧ W.cell? ⟨ib, pl * 8 + 2, none⟩ = some (.int .i64 k) ∧ W.cell? ⟨ib, pl * 8 + 3, none⟩ = some (.int .i64 nr) ∧ W.cell? ⟨ib, pl * 8 + 4, none⟩ = some (.int .u64 ni) ∧ W.cell? ⟨ib, pl * 8 + 5, none⟩ = some (.int .i64 orr) ∧ W.cell? ⟨ib, pl * 8 + 6, none⟩ = some (.int .u64 oi) ∧ W.cell? ⟨ib, pl * 8 + 7, none⟩ = some (.int .i64 n))) (by kernel_rfl) (HA.out _ (Keeps.refl _ _).drew.drew) (fun hHeld => ?_); simp only [List.size_toArray, List.length_cons, List.length_nil, Nat.reduceAdd, Array.replicate_succ, Array.replicate_zero, List.push_toArray, List.append_toArray, List.nil_append, List.cons_append])
  refine rgT 0 (h := ?_)
  refine rgT 1 (h := ?_)
  refine rgT 2 (h := ?_)
  refine rgT 3 (h := ?_)
  refine rgT 4 (h := ?_)
  refine rgT 5 (h := ?_)
  refine rgT 6 (h := ?_)
  refine rgT 7 (h := ?_)
  refine rgT 8 (h := ?_)
  refine rgT 9 (h := ?_)
  (refine rgS 10 (h := fun K hK => ?_); go_simp)
  (refine hK.out _ _ (HA.out _ ((Keeps.refl _ _).alloc _).drew.drew) (fun hHeld => ?_); clear hK K; try simp only [Act.put, List.setIfInBounds_toArray, List.set_cons_zero, List.set_cons_succ])
  (refine rgS 11 (h := fun K hK => ?_); go_simp)
  (refine hK.out _ _ (HA.out _ ((Keeps.refl _ _).alloc _).drew.drew) (fun hHeld => ?_); clear hK K; try simp only [Act.put, List.setIfInBounds_toArray, List.set_cons_zero, List.set_cons_succ])
  refine wpAnyH_done (by kernel_rfl) ?_ _
  clear H HA p1 hlt hp0 hp1
  change Hid (Rk w (w.alloc (.cells #[.int .i64 4, .int .i64 j, .int .i64 k, .int .i64 nr, .int .u64 ni, .int .i64 orr, .int .u64 oi, .int .i64 n] 106)).drew.drew R s w.heap.size ⟨4, j, k, nr, ni, orr, oi, n⟩) at HS
  generalize (w.alloc (.cells #[.int .i64 4, .int .i64 j, .int .i64 k, .int .i64 nr, .int .u64 ni, .int .i64 orr, .int .u64 oi, .int .i64 n] 106)).drew.drew = W0 at *
  generalize w.heap.size = g at *
  have t2 := HS.out.p.t2 i hi
  rw [hps] at t2
  have f2 := HS.out.p.fz R.tb (i * 3 + 2) (.inl rfl)
  have b0 := HS.out.bx 0 _ rfl
  have hw1 : (pl : Int) + 1 = ((pl + 1 : Nat) : Int) := by omega
  have H1 : Hid (Rk w (W0.setCell ⟨R.tb, i * 3 + 2, none⟩ (.int .i64 ((pl : Int) + 1))) R ⟨s.wo, s.rg, upd s.pl i (pl + 1)⟩ g ⟨4, j, k, nr, ni, orr, oi, n⟩) := by
    rw [hw1]
    exact HS.out.put (.inl rfl) (HS.out.p.setPl hR i (pl + 1) hi)
  clear hw1
  have nb : (⟨R.tb, i * 3 + 2, none⟩ : Addr) ≠ ⟨g, 0, none⟩ := fun e => HS.out.ng (.inl (.inl (congrArg Addr.block e).symm))
  have b1 := H1.out.bx 0 _ rfl
  go_wp2_with fail
  clear t2 f2 b0 nb b1 HS
  generalize W0.setCell ⟨R.tb, i * 3 + 2, none⟩ (.int .i64 ((pl : Int) + 1)) = W1 at *
  (refine wp_region_held_drew (S := (fun W => W.cell? ⟨g, 3, none⟩ = some (.int .i64 nr) ∧ W.cell? ⟨g, 4, none⟩ = some (.int .u64 ni) ∧ W.cell? ⟨R.tb, i * 3 + 1, none⟩ = some (.slice (some ⟨R.rb i, 0, none⟩) 4 (4 + R.rk i)))) (by kernel_rfl) ⟨H1.out.bx 3 _ rfl, H1.out.bx 4 _ rfl, H1.out.p.t1 i hi⟩ (fun hHeld => ?_); simp only [List.size_toArray, List.length_cons, List.length_nil, Nat.reduceAdd, Array.replicate_succ, Array.replicate_zero, List.push_toArray, List.append_toArray, List.nil_append, List.cons_append])
  refine rgT 0 (h := ?_)
  refine rgT 1 (h := ?_)
  refine rgT 2 (h := ?_)
  refine rgT 3 (h := ?_)
  refine rgT 4 (h := ?_)
  refine rgT 5 (h := ?_)
  (refine rgS 6 (h := fun K hK => ?_); go_simp)
  refine (rvalue_any W1.drew R ⟨s.wo, s.rg, upd s.pl i (pl + 1)⟩ H1.out.drew.p i hi nr ni hv).mono ?_
  rintro e W2 ⟨he, k2⟩
  have he' : e = .returned (.int .u64 fr) := by rw [Hfr.out]; exact he
  subst he'
  have H2 : Hid (Rk w W2 R ⟨s.wo, s.rg, upd s.pl i (pl + 1)⟩ g ⟨4, j, k, nr, ni, orr, oi, n⟩) := H1.out.drew.still k2
  clear H1 k2 he
  (refine hK.out _ _ ⟨H2.out.bx 3 _ rfl, H2.out.bx 4 _ rfl, H2.out.p.t1 i hi⟩ (fun hHeld => ?_); clear hK K; try simp only [Act.put, List.setIfInBounds_toArray, List.set_cons_zero, List.set_cons_succ])
  refine rgT 7 (h := ?_)
  refine wpAnyH_done (by kernel_rfl) ?_ _
  have q0 := H2.out.bx 0 _ rfl
  go_wp2_with fail
  clear q0
  (refine wp_region_held_drew (S := (fun W => W.cell? ⟨R.tb, i * 3 + 1, none⟩ = some (.slice (some ⟨R.rb i, 0, none⟩) 4 (4 + R.rk i)) ∧ W.cell? ⟨R.bk, 0, none⟩ = some (.slice (some ⟨R.cb, 0, none⟩) R.wd R.cc) ∧ W.cell? ⟨g, 1, none⟩ = some (.int .i64 j) ∧ W.cell? ⟨g, 2, none⟩ = some (.int .i64 k) ∧ W.cell? ⟨R.cb, j, none⟩ = some (.int .u64 (s.wo j)))) (by kernel_rfl) ⟨H2.out.p.t1 i hi, H2.out.p.p0, H2.out.bx 1 _ rfl, H2.out.bx 2 _ rfl, H2.out.p.ce j hj⟩ (fun hHeld => ?_); simp only [List.size_toArray, List.length_cons, List.length_nil, Nat.reduceAdd, Array.replicate_succ, Array.replicate_zero, List.push_toArray, List.append_toArray, List.nil_append, List.cons_append])
  refine rgT 0 (h := ?_)
  refine rgT 1 (h := ?_)
  refine rgT 2 (h := ?_)
  refine rgT 3 (h := ?_)
  refine rgT 4 (h := ?_)
  refine rgT 5 (h := ?_)
  refine rgT 6 (h := ?_)
  refine rgT 7 (h := ?_)
  refine rgT 8 (h := ?_)
  refine rgT 9 (h := ?_)
  refine rgT 10 (h := ?_)
  refine rgT 11 (h := ?_)
  refine rgT 12 (h := ?_)
  refine rgT 13 (h := ?_)
  refine rgT 14 (h := ?_)
  have c4 := H2.out.drew.p.rg i k hi hk
  have f4 := H2.out.drew.p.fz (R.rb i) k (.inr (.inr ⟨i, hi, rfl⟩))
  (refine rgS 15 (h := fun K hK => ?_); go_simp)
  have H3 : Hid (Rk w (W2.setCell ⟨R.rb i, k, none⟩ (.int .u64 (s.wo j))).drew R ⟨s.wo, upd s.rg i (upd (s.rg i) k (s.wo j)), upd s.pl i (pl + 1)⟩ g ⟨4, j, k, nr, ni, orr, oi, n⟩) := (H2.out.put (.inr (.inr ⟨i, hi, rfl⟩)) (H2.out.p.setRg hR i k (s.wo j) hi hk)).drew
  clear H2 c4 f4
  (refine hK.out _ _ ⟨H3.out.p.t1 i hi, H3.out.p.p0, H3.out.bx 1 _ rfl, H3.out.bx 2 _ rfl, H3.out.p.ce j hj⟩ (fun hHeld => ?_); clear hK K; try simp only [Act.put, List.setIfInBounds_toArray, List.set_cons_zero, List.set_cons_succ])
  refine wpAnyH_done (by kernel_rfl) ?_ _
  generalize (W2.setCell ⟨R.rb i, k, none⟩ (.int .u64 (s.wo j))).drew = W9 at *
  go_wp2_with fail
  (refine wp_region_held_drew (S := (fun W => W.cell? ⟨R.bk, 0, none⟩ = some (.slice (some ⟨R.cb, 0, none⟩) R.wd R.cc) ∧ W.cell? ⟨g, 1, none⟩ = some (.int .i64 j))) (by kernel_rfl) ⟨H3.out.p.p0, H3.out.bx 1 _ rfl⟩ (fun hHeld => ?_); simp only [List.size_toArray, List.length_cons, List.length_nil, Nat.reduceAdd, Array.replicate_succ, Array.replicate_zero, List.push_toArray, List.append_toArray, List.nil_append, List.cons_append])
  refine rgT 0 (h := ?_)
  refine rgT 1 (h := ?_)
  refine rgT 2 (h := ?_)
  refine rgT 3 (h := ?_)
  refine rgT 4 (h := ?_)
  refine rgT 5 (h := ?_)
  refine rgT 6 (h := ?_)
  refine rgT 7 (h := ?_)
  refine rgT 8 (h := ?_)
  refine rgT 9 (h := ?_)
  refine rgT 10 (h := ?_)
  refine rgT 11 (h := ?_)
  refine rgT 12 (h := ?_)
  refine rgT 14 (h := ?_)
  have c4 := H3.out.drew.p.ce j hj
  have f4 := H3.out.drew.p.fz R.cb j (.inr (.inl rfl))
  (refine rgS 13 (h := fun K hK => ?_); go_simp)
  (refine hK.out _ _ ⟨H3.out.drew.p.p0, H3.out.drew.bx 1 _ rfl⟩ (fun hHeld => ?_); clear hK K; try simp only [Act.put, List.setIfInBounds_toArray, List.set_cons_zero, List.set_cons_succ])
  refine rgT 15 (h := ?_)
  refine rgT 16 (h := ?_)
  (refine rgS 17 (h := fun K hK => ?_); go_simp)
  have H4 : Hid (Rk w (W9.setCell ⟨R.cb, j, none⟩ (.int .u64 (IntKind.u64.wrap (s.wo j + fr)))).drew R ⟨upd s.wo j ((s.wo j + fr) % 18446744073709551616), upd s.rg i (upd (s.rg i) k (s.wo j)), upd s.pl i (pl + 1)⟩ g ⟨4, j, k, nr, ni, orr, oi, n⟩) := by
    rw [IntKind.wrap_u64]
    exact (H3.out.put (.inr (.inl rfl)) (H3.out.p.setWo hR j _ hj)).drew
  clear H3 c4 f4
  (refine hK.out _ _ ⟨H4.out.p.p0, H4.out.bx 1 _ rfl⟩ (fun hHeld => ?_); clear hK K; try simp only [Act.put, List.setIfInBounds_toArray, List.set_cons_zero, List.set_cons_succ])
  refine wpAnyH_done (by kernel_rfl) ?_ _
  generalize (W9.setCell ⟨R.cb, j, none⟩ (.int .u64 (IntKind.u64.wrap (s.wo j + fr)))).drew = W4 at *
  go_wp2_with fail
  (refine wp_region_held_drew (S := (fun W => W.cell? ⟨R.tb, i * 3 + 2, none⟩ = some (.int .i64 ((pl + 1 : Nat) : Int)) ∧ W.cell? ⟨R.tb, i * 3, none⟩ = some (.slice (some ⟨ib, 0, none⟩) m (R.icap i)))) (by kernel_rfl) ⟨H4.out.p.t2' hi, H4.out.p.t0' hi hia hml⟩ (fun hHeld => ?_); simp only [List.size_toArray, List.length_cons, List.length_nil, Nat.reduceAdd, Array.replicate_succ, Array.replicate_zero, List.push_toArray, List.append_toArray, List.nil_append, List.cons_append])
  refine rgT 0 (h := ?_)
  refine rgT 1 (h := ?_)
  refine rgT 2 (h := ?_)
  refine rgT 3 (h := ?_)
  refine rgT 4 (h := ?_)
  refine rgT 5 (h := ?_)
  refine rgT 6 (h := ?_)
  refine rgT 7 (h := ?_)
  refine rgT 8 (h := ?_)
  refine rgT 9 (h := ?_)
  refine rgT 10 (h := ?_)
  refine wpAnyH_done (by kernel_rfl) ?_ _
  go_wp2
  go_ret
  have e1 : decide ((m : Int) ≤ (((pl + 1 : Nat)) : Int)) = decide (m ≤ pl + 1) := by congr 1; exact propext ⟨fun h => by omega, fun h => by omega⟩
  exact ⟨by simpa using e1, H4.out.drew.p, H4.out.drew.k⟩
theorem rstep_5h (R : Rd) (hR : RdOk R) (w : World) (s : Ls) (h : RP R w s) (i : Nat) (hi : i < R.n) (pl m ib : Nat) (c r nr ni orr oi n : Int) (hia : R.ia i = some ⟨ib, 0, none⟩) (hml : (R.ins i).length = m) (h8 : In8 w ib pl 5 c r nr ni orr oi n) (hpl : pl < m) (hm : m ≤ 1000) (hps : s.pl i = pl) (r0 : 0 ≤ r) (r1 : r < 4) (hv : nr ≤ 3) (n0 : 1 ≤ n) (n1 : n ≤ 10) (hq : s.rg i r.toNat = valP (s.rg i) nr ni) (pp : Nat) (hpp : Hid (pp = min (pl + (1 + n.toNat)) m)) :
    Calls Tryz.prog 69 #[.pointer (some ⟨R.bk, 0, none⟩), .int .i64 (i : Int)] w fun e w' => e = .returned (.bool (decide (m ≤ pp))) ∧ RP R w' ⟨s.wo, s.rg, upd s.pl i (pp)⟩ ∧ Keeps (fRw R) w w' := by
  obtain ⟨k, rfl⟩ : ∃ k : Nat, r = (k : Int) := ⟨r.toNat, by omega⟩
  have hk : k < 4 := by omega
  have ek : ((k : Int)).toNat = k := by omega
  rw [ek] at hq
  have hr0 : (0 : Int) ≤ (k : Int) := Int.natCast_nonneg _
  have hr1 : (k : Int) < 4 := by omega
  obtain ⟨fr, hfr⟩ : ∃ x, x = valP (s.rg i) nr ni := ⟨_, rfl⟩
  rw [← hfr] at hq
  have Hfr : Hid (fr = valP (s.rg i) nr ni) := hfr
  clear hfr
  have p1 := h.p1
  have i0 : (0 : Int) ≤ (i : Int) := Int.natCast_nonneg _
  have i1 : (i : Int) < (R.n : Int) := by omega
  have hp0 : (0 : Int) ≤ (pl : Int) := Int.natCast_nonneg _
  have hp1 : (pl : Int) < (m : Int) := by omega
  have hlt : ¬ (m : Int) ≤ (pl : Int) := by omega
  have ht2 := h.t2 i hi
  rw [hps] at ht2
  have ht0 := h.t0' hi hia hml
  have H : Hid (RP R w s ∧ w.cell? ⟨R.tb, i * 3 + 2, none⟩ = some (.int .i64 (pl : Int)) ∧ w.cell? ⟨R.tb, i * 3, none⟩ = some (.slice (some ⟨ib, 0, none⟩) m (R.icap i))) := ⟨h, ht2, ht0⟩
  have HA : Hid (∀ W, Keeps (fun _ => False) w W → W.cell? ⟨R.tb, i * 3 + 2, none⟩ = some (.int .i64 (pl : Int)) ∧ W.cell? ⟨R.tb, i * 3, none⟩ = some (.slice (some ⟨ib, 0, none⟩) m (R.icap i)) ∧ W.cell? ⟨ib, pl * 8, none⟩ = some (.int .i64 5) ∧ W.cell? ⟨ib, pl * 8 + 1, none⟩ = some (.int .i64 c) ∧ W.cell? ⟨ib, pl * 8 + 2, none⟩ = some (.int .i64 k) ∧ W.cell? ⟨ib, pl * 8 + 3, none⟩ = some (.int .i64 nr) ∧ W.cell? ⟨ib, pl * 8 + 4, none⟩ = some (.int .u64 ni) ∧ W.cell? ⟨ib, pl * 8 + 5, none⟩ = some (.int .i64 orr) ∧ W.cell? ⟨ib, pl * 8 + 6, none⟩ = some (.int .u64 oi) ∧ W.cell? ⟨ib, pl * 8 + 7, none⟩ = some (.int .i64 n)) := fun W k => by
    have q := h8.keeps k (fun e => e)
    exact ⟨((k.cell (p := ⟨R.tb, i * 3 + 2, none⟩) (h.lt _ (.inl (.inl rfl))) (fun e => e))).trans ht2, ((k.cell (p := ⟨R.tb, i * 3, none⟩) (h.lt _ (.inl (.inl rfl))) (fun e => e))).trans ht0, q.c0, q.c1, q.c2, q.c3, q.c4, q.c5, q.c6, q.c7⟩
  have HS : Hid (Rk w (w.alloc (.cells (iV ⟨5, c, k, nr, ni, orr, oi, n⟩) 106)).drew.drew R s w.heap.size ⟨5, c, k, nr, ni, orr, oi, n⟩) := (Rk.start _ h).drew.drew
  clear h ht2 ht0 h8
  go_enter Tryz.func69, Tryz.ntmps69
  go_wp2_with fail
  (refine wp_region_held_drew (S := (fun W => W.cell? ⟨R.tb, i * 3 + 2, none⟩ = some (.int .i64 (pl : Int)) ∧ W.cell? ⟨R.tb, i * 3, none⟩ = some (.slice (some ⟨ib, 0, none⟩) m (R.icap i)))) (by kernel_rfl) ⟨H.out.2.1, H.out.2.2⟩ (fun hHeld => ?_); simp only [List.size_toArray, List.length_cons, List.length_nil, Nat.reduceAdd, Array.replicate_succ, Array.replicate_zero, List.push_toArray, List.append_toArray, List.nil_append, List.cons_append])
  refine rgT 0 (h := ?_)
  refine rgT 1 (h := ?_)
  refine rgT 2 (h := ?_)
  refine rgT 3 (h := ?_)
  refine rgT 4 (h := ?_)
  refine rgT 5 (h := ?_)
  refine rgT 6 (h := ?_)
  refine rgT 7 (h := ?_)
  refine rgT 8 (h := ?_)
  refine rgT 9 (h := ?_)
  refine wpAnyH_done (by kernel_rfl) ?_ _
  go_wp2_with fail
  (refine wp_region_held_drew (S := (fun W => W.cell? ⟨R.tb, i * 3 + 2, none⟩ = some (.int .i64 (pl : Int)) ∧ W.cell? ⟨R.tb, i * 3, none⟩ = some (.slice (some ⟨ib, 0, none⟩) m (R.icap i)) ∧ W.cell? ⟨ib, pl * 8, none⟩ = some (.int .i64 5) ∧ W.cell? ⟨ib, pl * 8 + 1, none⟩ = some (.int .i64 c) ∧ W.cell? ⟨ib, pl * 8 + 2, none⟩ = some (.int .i64 k) ∧ W.cell? ⟨ib, pl * 8 + 3, none⟩ = some (.int .i64 nr) ∧ W.cell? ⟨ib, pl * 8 + 4, none⟩ = some (.int .u64 ni) ∧ W.cell? ⟨ib, pl * 8 + 5, none⟩ = some (.int .i64 orr) ∧ W.cell? ⟨ib, pl * 8 + 6, none⟩ = some (.int .u64 oi) ∧ W.cell? ⟨ib, pl * 8 + 7, none⟩ = some (.int .i64 n))) (by kernel_rfl) (HA.out _ (Keeps.refl _ _).drew.drew) (fun hHeld => ?_); simp only [List.size_toArray, List.length_cons, List.length_nil, Nat.reduceAdd, Array.replicate_succ, Array.replicate_zero, List.push_toArray, List.append_toArray, List.nil_append, List.cons_append])
  refine rgT 0 (h := ?_)
  refine rgT 1 (h := ?_)
  refine rgT 2 (h := ?_)
  refine rgT 3 (h := ?_)
  refine rgT 4 (h := ?_)
  refine rgT 5 (h := ?_)
  refine rgT 6 (h := ?_)
  refine rgT 7 (h := ?_)
  refine rgT 8 (h := ?_)
  refine rgT 9 (h := ?_)
  (refine rgS 10 (h := fun K hK => ?_); go_simp)
  (refine hK.out _ _ (HA.out _ ((Keeps.refl _ _).alloc _).drew.drew) (fun hHeld => ?_); clear hK K; try simp only [Act.put, List.setIfInBounds_toArray, List.set_cons_zero, List.set_cons_succ])
  (refine rgS 11 (h := fun K hK => ?_); go_simp)
  (refine hK.out _ _ (HA.out _ ((Keeps.refl _ _).alloc _).drew.drew) (fun hHeld => ?_); clear hK K; try simp only [Act.put, List.setIfInBounds_toArray, List.set_cons_zero, List.set_cons_succ])
  refine wpAnyH_done (by kernel_rfl) ?_ _
  clear H HA p1 hlt hp0 hp1
  change Hid (Rk w (w.alloc (.cells #[.int .i64 5, .int .i64 c, .int .i64 k, .int .i64 nr, .int .u64 ni, .int .i64 orr, .int .u64 oi, .int .i64 n] 106)).drew.drew R s w.heap.size ⟨5, c, k, nr, ni, orr, oi, n⟩) at HS
  generalize (w.alloc (.cells #[.int .i64 5, .int .i64 c, .int .i64 k, .int .i64 nr, .int .u64 ni, .int .i64 orr, .int .u64 oi, .int .i64 n] 106)).drew.drew = W0 at *
  generalize w.heap.size = g at *
  have t2 := HS.out.p.t2 i hi
  rw [hps] at t2
  have f2 := HS.out.p.fz R.tb (i * 3 + 2) (.inl rfl)
  have b0 := HS.out.bx 0 _ rfl
  have hw1 : (pl : Int) + 1 = ((pl + 1 : Nat) : Int) := by omega
  have H1 : Hid (Rk w (W0.setCell ⟨R.tb, i * 3 + 2, none⟩ (.int .i64 ((pl : Int) + 1))) R ⟨s.wo, s.rg, upd s.pl i (pl + 1)⟩ g ⟨5, c, k, nr, ni, orr, oi, n⟩) := by
    rw [hw1]
    exact HS.out.put (.inl rfl) (HS.out.p.setPl hR i (pl + 1) hi)
  clear hw1
  have nb : (⟨R.tb, i * 3 + 2, none⟩ : Addr) ≠ ⟨g, 0, none⟩ := fun e => HS.out.ng (.inl (.inl (congrArg Addr.block e).symm))
  have b1 := H1.out.bx 0 _ rfl
  go_wp2_with fail
  clear t2 f2 b0 nb b1 HS
  generalize W0.setCell ⟨R.tb, i * 3 + 2, none⟩ (.int .i64 ((pl : Int) + 1)) = W1 at *
  (refine wp_region_held_drew (S := (fun W => W.cell? ⟨g, 3, none⟩ = some (.int .i64 nr) ∧ W.cell? ⟨g, 4, none⟩ = some (.int .u64 ni) ∧ W.cell? ⟨R.tb, i * 3 + 1, none⟩ = some (.slice (some ⟨R.rb i, 0, none⟩) 4 (4 + R.rk i)))) (by kernel_rfl) ⟨H1.out.bx 3 _ rfl, H1.out.bx 4 _ rfl, H1.out.p.t1 i hi⟩ (fun hHeld => ?_); simp only [List.size_toArray, List.length_cons, List.length_nil, Nat.reduceAdd, Array.replicate_succ, Array.replicate_zero, List.push_toArray, List.append_toArray, List.nil_append, List.cons_append])
  refine rgT 0 (h := ?_)
  refine rgT 1 (h := ?_)
  refine rgT 2 (h := ?_)
  refine rgT 3 (h := ?_)
  refine rgT 4 (h := ?_)
  refine rgT 5 (h := ?_)
  (refine rgS 6 (h := fun K hK => ?_); go_simp)
  refine (rvalue_any W1.drew R ⟨s.wo, s.rg, upd s.pl i (pl + 1)⟩ H1.out.drew.p i hi nr ni hv).mono ?_
  rintro e W2 ⟨he, k2⟩
  have he' : e = .returned (.int .u64 fr) := by rw [Hfr.out]; exact he
  subst he'
  have H2 : Hid (Rk w W2 R ⟨s.wo, s.rg, upd s.pl i (pl + 1)⟩ g ⟨5, c, k, nr, ni, orr, oi, n⟩) := H1.out.drew.still k2
  clear H1 k2 he
  (refine hK.out _ _ ⟨H2.out.bx 3 _ rfl, H2.out.bx 4 _ rfl, H2.out.p.t1 i hi⟩ (fun hHeld => ?_); clear hK K; try simp only [Act.put, List.setIfInBounds_toArray, List.set_cons_zero, List.set_cons_succ])
  refine rgT 7 (h := ?_)
  refine wpAnyH_done (by kernel_rfl) ?_ _
  have q0 := H2.out.bx 0 _ rfl
  go_wp2_with fail
  clear q0
  (refine wp_region_held_drew (S := (fun W => W.cell? ⟨R.tb, i * 3 + 1, none⟩ = some (.slice (some ⟨R.rb i, 0, none⟩) 4 (4 + R.rk i)) ∧ W.cell? ⟨g, 2, none⟩ = some (.int .i64 k) ∧ W.cell? ⟨R.rb i, k, none⟩ = some (.int .u64 (s.rg i k)))) (by kernel_rfl) ⟨H2.out.p.t1 i hi, H2.out.bx 2 _ rfl, H2.out.p.rg i k hi hk⟩ (fun hHeld => ?_); simp only [List.size_toArray, List.length_cons, List.length_nil, Nat.reduceAdd, Array.replicate_succ, Array.replicate_zero, List.push_toArray, List.append_toArray, List.nil_append, List.cons_append])
  refine rgT 0 (h := ?_)
  refine rgT 1 (h := ?_)
  refine rgT 2 (h := ?_)
  refine rgT 3 (h := ?_)
  refine rgT 4 (h := ?_)
  refine rgT 5 (h := ?_)
  refine rgT 6 (h := ?_)
  refine rgT 7 (h := ?_)
  refine rgT 8 (h := ?_)
  refine rgT 9 (h := ?_)
  refine wpAnyH_done (by kernel_rfl) ?_ _
  go_wp2_with fail
  have H3 : Hid (Rk w W2.drew R ⟨s.wo, s.rg, upd s.pl i (pl + 1)⟩ g ⟨5, c, k, nr, ni, orr, oi, n⟩) := H2.out.drew
  clear H2
  generalize W2.drew = W3 at *
  (refine wp_region_held_drew (S := (fun W => W.cell? ⟨g, 7, none⟩ = some (.int .i64 n) ∧ W.cell? ⟨R.tb, i * 3, none⟩ = some (.slice (some ⟨ib, 0, none⟩) m (R.icap i)))) (by kernel_rfl) ⟨H3.out.bx 7 _ rfl, H3.out.p.t0' hi hia hml⟩ (fun hHeld => ?_); simp only [List.size_toArray, List.length_cons, List.length_nil, Nat.reduceAdd, Array.replicate_succ, Array.replicate_zero, List.push_toArray, List.append_toArray, List.nil_append, List.cons_append])
  refine rgT 0 (h := ?_)
  refine rgT 1 (h := ?_)
  refine rgT 2 (h := ?_)
  refine rgT 3 (h := ?_)
  refine rgT 5 (h := ?_)
  refine rgT 6 (h := ?_)
  refine rgT 8 (h := ?_)
  refine rgT 9 (h := ?_)
  refine rgT 10 (h := ?_)
  refine rgT 11 (h := ?_)
  refine rgT 12 (h := ?_)
  have c4 := H3.out.drew.p.t2' hi
  have f4 := H3.out.drew.p.fz R.tb (i * 3 + 2) (.inl rfl)
  (refine rgS 4 (h := fun K hK => ?_); go_simp)
  (refine hK.out _ _ ⟨H3.out.drew.bx 7 _ rfl, H3.out.drew.p.t0' hi hia hml⟩ (fun hHeld => ?_); clear hK K; try simp only [Act.put, List.setIfInBounds_toArray, List.set_cons_zero, List.set_cons_succ])
  refine rgT 7 (h := ?_)
  refine rgT 13 (h := ?_)
  refine rgT 14 (h := ?_)
  refine rgT 15 (h := ?_)
  have hx : (if (m : Int) < IntKind.i64.wrap ((pl : Int) + 1 + n) then (m : Int) else IntKind.i64.wrap ((pl : Int) + 1 + n)) = (pp : Int) := by
    have e := hpp.out
    rw [IntKind.wrap_i64]
    split <;> omega
  have H4 : Hid (Rk w (W3.setCell ⟨R.tb, i * 3 + 2, none⟩ (.int .i64 (if (m : Int) < IntKind.i64.wrap ((pl : Int) + 1 + n) then (m : Int) else IntKind.i64.wrap ((pl : Int) + 1 + n)))).drew R ⟨s.wo, s.rg, upd s.pl i (pp)⟩ g ⟨5, c, k, nr, ni, orr, oi, n⟩) := by
    rw [hx]
    have q := H3.out.p.setPl hR i pp hi
    have eu : upd (upd s.pl i (pl + 1)) i pp = upd s.pl i pp := upd_upd _ _ _ _
    dsimp only at q
    rw [eu] at q
    exact (H3.out.put (.inl rfl) q).drew
  clear hx
  (refine rgS 16 (h := fun K hK => ?_); go_simp)
  clear H3 c4 f4
  (refine hK.out _ _ ⟨H4.out.bx 7 _ rfl, H4.out.p.t0' hi hia hml⟩ (fun hHeld => ?_); clear hK K; try simp only [Act.put, List.setIfInBounds_toArray, List.set_cons_zero, List.set_cons_succ])
  refine wpAnyH_done (by kernel_rfl) ?_ _
  generalize (if (m : Int) < IntKind.i64.wrap ((pl : Int) + 1 + n) then (m : Int) else IntKind.i64.wrap ((pl : Int) + 1 + n)) = mm at *
  generalize (W3.setCell ⟨R.tb, i * 3 + 2, none⟩ (.int .i64 mm)).drew = W5 at *
  go_wp2_with fail
  (refine wp_region_held_drew (S := (fun W => W.cell? ⟨R.tb, i * 3 + 2, none⟩ = some (.int .i64 ((pp : Nat) : Int)) ∧ W.cell? ⟨R.tb, i * 3, none⟩ = some (.slice (some ⟨ib, 0, none⟩) m (R.icap i)))) (by kernel_rfl) ⟨H4.out.p.t2' hi, H4.out.p.t0' hi hia hml⟩ (fun hHeld => ?_); simp only [List.size_toArray, List.length_cons, List.length_nil, Nat.reduceAdd, Array.replicate_succ, Array.replicate_zero, List.push_toArray, List.append_toArray, List.nil_append, List.cons_append])
  refine rgT 0 (h := ?_)
  refine rgT 1 (h := ?_)
  refine rgT 2 (h := ?_)
  refine rgT 3 (h := ?_)
  refine rgT 4 (h := ?_)
  refine rgT 5 (h := ?_)
  refine rgT 6 (h := ?_)
  refine rgT 7 (h := ?_)
  refine rgT 8 (h := ?_)
  refine rgT 9 (h := ?_)
  refine rgT 10 (h := ?_)
  refine wpAnyH_done (by kernel_rfl) ?_ _
  go_wp2
  go_ret
  have e1 : decide ((m : Int) ≤ (((pp : Nat)) : Int)) = decide (m ≤ pp) := by congr 1; exact propext ⟨fun h => by omega, fun h => by omega⟩
  exact ⟨by simp, H4.out.drew.p, H4.out.drew.k⟩
theorem rstep_5m (R : Rd) (hR : RdOk R) (w : World) (s : Ls) (h : RP R w s) (i : Nat) (hi : i < R.n) (pl m ib : Nat) (c r nr ni orr oi n : Int) (hia : R.ia i = some ⟨ib, 0, none⟩) (hml : (R.ins i).length = m) (h8 : In8 w ib pl 5 c r nr ni orr oi n) (hpl : pl < m) (hm : m ≤ 1000) (hps : s.pl i = pl) (r0 : 0 ≤ r) (r1 : r < 4) (hv : nr ≤ 3) (hq : ¬ s.rg i r.toNat = valP (s.rg i) nr ni) :
    Calls Tryz.prog 69 #[.pointer (some ⟨R.bk, 0, none⟩), .int .i64 (i : Int)] w fun e w' => e = .returned (.bool (decide (m ≤ pl + 1))) ∧ RP R w' ⟨s.wo, s.rg, upd s.pl i (pl + 1)⟩ ∧ Keeps (fRw R) w w' := by
  obtain ⟨k, rfl⟩ : ∃ k : Nat, r = (k : Int) := ⟨r.toNat, by omega⟩
  have hk : k < 4 := by omega
  have ek : ((k : Int)).toNat = k := by omega
  rw [ek] at hq
  have hr0 : (0 : Int) ≤ (k : Int) := Int.natCast_nonneg _
  have hr1 : (k : Int) < 4 := by omega
  obtain ⟨fr, hfr⟩ : ∃ x, x = valP (s.rg i) nr ni := ⟨_, rfl⟩
  rw [← hfr] at hq
  have Hfr : Hid (fr = valP (s.rg i) nr ni) := hfr
  clear hfr
  have p1 := h.p1
  have i0 : (0 : Int) ≤ (i : Int) := Int.natCast_nonneg _
  have i1 : (i : Int) < (R.n : Int) := by omega
  have hp0 : (0 : Int) ≤ (pl : Int) := Int.natCast_nonneg _
  have hp1 : (pl : Int) < (m : Int) := by omega
  have hlt : ¬ (m : Int) ≤ (pl : Int) := by omega
  have ht2 := h.t2 i hi
  rw [hps] at ht2
  have ht0 := h.t0' hi hia hml
  have H : Hid (RP R w s ∧ w.cell? ⟨R.tb, i * 3 + 2, none⟩ = some (.int .i64 (pl : Int)) ∧ w.cell? ⟨R.tb, i * 3, none⟩ = some (.slice (some ⟨ib, 0, none⟩) m (R.icap i))) := ⟨h, ht2, ht0⟩
  have HA : Hid (∀ W, Keeps (fun _ => False) w W → W.cell? ⟨R.tb, i * 3 + 2, none⟩ = some (.int .i64 (pl : Int)) ∧ W.cell? ⟨R.tb, i * 3, none⟩ = some (.slice (some ⟨ib, 0, none⟩) m (R.icap i)) ∧ W.cell? ⟨ib, pl * 8, none⟩ = some (.int .i64 5) ∧ W.cell? ⟨ib, pl * 8 + 1, none⟩ = some (.int .i64 c) ∧ W.cell? ⟨ib, pl * 8 + 2, none⟩ = some (.int .i64 k) ∧ W.cell? ⟨ib, pl * 8 + 3, none⟩ = some (.int .i64 nr) ∧ W.cell? ⟨ib, pl * 8 + 4, none⟩ = some (.int .u64 ni) ∧ W.cell? ⟨ib, pl * 8 + 5, none⟩ = some (.int .i64 orr) ∧ W.cell? ⟨ib, pl * 8 + 6, none⟩ = some (.int .u64 oi) ∧ W.cell? ⟨ib, pl * 8 + 7, none⟩ = some (.int .i64 n)) := fun W k => by
    have q := h8.keeps k (fun e => e)
    exact ⟨((k.cell (p := ⟨R.tb, i * 3 + 2, none⟩) (h.lt _ (.inl (.inl rfl))) (fun e => e))).trans ht2, ((k.cell (p := ⟨R.tb, i * 3, none⟩) (h.lt _ (.inl (.inl rfl))) (fun e => e))).trans ht0, q.c0, q.c1, q.c2, q.c3, q.c4, q.c5, q.c6, q.c7⟩
  have HS : Hid (Rk w (w.alloc (.cells (iV ⟨5, c, k, nr, ni, orr, oi, n⟩) 106)).drew.drew R s w.heap.size ⟨5, c, k, nr, ni, orr, oi, n⟩) := (Rk.start _ h).drew.drew
  clear h ht2 ht0 h8
  go_enter Tryz.func69, Tryz.ntmps69
  go_wp2_with fail
  (refine wp_region_held_drew (S := (fun W => W.cell? ⟨R.tb, i * 3 + 2, none⟩ = some (.int .i64 (pl : Int)) ∧ W.cell? ⟨R.tb, i * 3, none⟩ = some (.slice (some ⟨ib, 0, none⟩) m (R.icap i)))) (by kernel_rfl) ⟨H.out.2.1, H.out.2.2⟩ (fun hHeld => ?_); simp only [List.size_toArray, List.length_cons, List.length_nil, Nat.reduceAdd, Array.replicate_succ, Array.replicate_zero, List.push_toArray, List.append_toArray, List.nil_append, List.cons_append])
  refine rgT 0 (h := ?_)
  refine rgT 1 (h := ?_)
  refine rgT 2 (h := ?_)
  refine rgT 3 (h := ?_)
  refine rgT 4 (h := ?_)
  refine rgT 5 (h := ?_)
  refine rgT 6 (h := ?_)
  refine rgT 7 (h := ?_)
  refine rgT 8 (h := ?_)
  refine rgT 9 (h := ?_)
  refine wpAnyH_done (by kernel_rfl) ?_ _
  go_wp2_with fail
  (refine wp_region_held_drew (S := (fun W => W.cell? ⟨R.tb, i * 3 + 2, none⟩ = some (.int .i64 (pl : Int)) ∧ W.cell? ⟨R.tb, i * 3, none⟩ = some (.slice (some ⟨ib, 0, none⟩) m (R.icap i)) ∧ W.cell? ⟨ib, pl * 8, none⟩ = some (.int .i64 5) ∧ W.cell? ⟨ib, pl * 8 + 1, none⟩ = some (.int .i64 c) ∧ W.cell? ⟨ib, pl * 8 + 2, none⟩ = some (.int .i64 k) ∧ W.cell? ⟨ib, pl * 8 + 3, none⟩ = some (.int .i64 nr) ∧ W.cell? ⟨ib, pl * 8 + 4, none⟩ = some (.int .u64 ni) ∧ W.cell? ⟨ib, pl * 8 + 5, none⟩ = some (.int .i64 orr) ∧ W.cell? ⟨ib, pl * 8 + 6, none⟩ = some (.int .u64 oi) ∧ W.cell? ⟨ib, pl * 8 + 7, none⟩ = some (.int .i64 n))) (by kernel_rfl) (HA.out _ (Keeps.refl _ _).drew.drew) (fun hHeld => ?_); simp only [List.size_toArray, List.length_cons, List.length_nil, Nat.reduceAdd, Array.replicate_succ, Array.replicate_zero, List.push_toArray, List.append_toArray, List.nil_append, List.cons_append])
  refine rgT 0 (h := ?_)
  refine rgT 1 (h := ?_)
  refine rgT 2 (h := ?_)
  refine rgT 3 (h := ?_)
  refine rgT 4 (h := ?_)
  refine rgT 5 (h := ?_)
  refine rgT 6 (h := ?_)
  refine rgT 7 (h := ?_)
  refine rgT 8 (h := ?_)
  refine rgT 9 (h := ?_)
  (refine rgS 10 (h := fun K hK => ?_); go_simp)
  (refine hK.out _ _ (HA.out _ ((Keeps.refl _ _).alloc _).drew.drew) (fun hHeld => ?_); clear hK K; try simp only [Act.put, List.setIfInBounds_toArray, List.set_cons_zero, List.set_cons_succ])
  (refine rgS 11 (h := fun K hK => ?_); go_simp)
  (refine hK.out _ _ (HA.out _ ((Keeps.refl _ _).alloc _).drew.drew) (fun hHeld => ?_); clear hK K; try simp only [Act.put, List.setIfInBounds_toArray, List.set_cons_zero, List.set_cons_succ])
  refine wpAnyH_done (by kernel_rfl) ?_ _
  clear H HA p1 hlt hp0 hp1
  change Hid (Rk w (w.alloc (.cells #[.int .i64 5, .int .i64 c, .int .i64 k, .int .i64 nr, .int .u64 ni, .int .i64 orr, .int .u64 oi, .int .i64 n] 106)).drew.drew R s w.heap.size ⟨5, c, k, nr, ni, orr, oi, n⟩) at HS
  generalize (w.alloc (.cells #[.int .i64 5, .int .i64 c, .int .i64 k, .int .i64 nr, .int .u64 ni, .int .i64 orr, .int .u64 oi, .int .i64 n] 106)).drew.drew = W0 at *
  generalize w.heap.size = g at *
  have t2 := HS.out.p.t2 i hi
  rw [hps] at t2
  have f2 := HS.out.p.fz R.tb (i * 3 + 2) (.inl rfl)
  have b0 := HS.out.bx 0 _ rfl
  have hw1 : (pl : Int) + 1 = ((pl + 1 : Nat) : Int) := by omega
  have H1 : Hid (Rk w (W0.setCell ⟨R.tb, i * 3 + 2, none⟩ (.int .i64 ((pl : Int) + 1))) R ⟨s.wo, s.rg, upd s.pl i (pl + 1)⟩ g ⟨5, c, k, nr, ni, orr, oi, n⟩) := by
    rw [hw1]
    exact HS.out.put (.inl rfl) (HS.out.p.setPl hR i (pl + 1) hi)
  clear hw1
  have nb : (⟨R.tb, i * 3 + 2, none⟩ : Addr) ≠ ⟨g, 0, none⟩ := fun e => HS.out.ng (.inl (.inl (congrArg Addr.block e).symm))
  have b1 := H1.out.bx 0 _ rfl
  go_wp2_with fail
  clear t2 f2 b0 nb b1 HS
  generalize W0.setCell ⟨R.tb, i * 3 + 2, none⟩ (.int .i64 ((pl : Int) + 1)) = W1 at *
  (refine wp_region_held_drew (S := (fun W => W.cell? ⟨g, 3, none⟩ = some (.int .i64 nr) ∧ W.cell? ⟨g, 4, none⟩ = some (.int .u64 ni) ∧ W.cell? ⟨R.tb, i * 3 + 1, none⟩ = some (.slice (some ⟨R.rb i, 0, none⟩) 4 (4 + R.rk i)))) (by kernel_rfl) ⟨H1.out.bx 3 _ rfl, H1.out.bx 4 _ rfl, H1.out.p.t1 i hi⟩ (fun hHeld => ?_); simp only [List.size_toArray, List.length_cons, List.length_nil, Nat.reduceAdd, Array.replicate_succ, Array.replicate_zero, List.push_toArray, List.append_toArray, List.nil_append, List.cons_append])
  refine rgT 0 (h := ?_)
  refine rgT 1 (h := ?_)
  refine rgT 2 (h := ?_)
  refine rgT 3 (h := ?_)
  refine rgT 4 (h := ?_)
  refine rgT 5 (h := ?_)
  (refine rgS 6 (h := fun K hK => ?_); go_simp)
  refine (rvalue_any W1.drew R ⟨s.wo, s.rg, upd s.pl i (pl + 1)⟩ H1.out.drew.p i hi nr ni hv).mono ?_
  rintro e W2 ⟨he, k2⟩
  have he' : e = .returned (.int .u64 fr) := by rw [Hfr.out]; exact he
  subst he'
  have H2 : Hid (Rk w W2 R ⟨s.wo, s.rg, upd s.pl i (pl + 1)⟩ g ⟨5, c, k, nr, ni, orr, oi, n⟩) := H1.out.drew.still k2
  clear H1 k2 he
  (refine hK.out _ _ ⟨H2.out.bx 3 _ rfl, H2.out.bx 4 _ rfl, H2.out.p.t1 i hi⟩ (fun hHeld => ?_); clear hK K; try simp only [Act.put, List.setIfInBounds_toArray, List.set_cons_zero, List.set_cons_succ])
  refine rgT 7 (h := ?_)
  refine wpAnyH_done (by kernel_rfl) ?_ _
  have q0 := H2.out.bx 0 _ rfl
  go_wp2_with fail
  clear q0
  (refine wp_region_held_drew (S := (fun W => W.cell? ⟨R.tb, i * 3 + 1, none⟩ = some (.slice (some ⟨R.rb i, 0, none⟩) 4 (4 + R.rk i)) ∧ W.cell? ⟨g, 2, none⟩ = some (.int .i64 k) ∧ W.cell? ⟨R.rb i, k, none⟩ = some (.int .u64 (s.rg i k)))) (by kernel_rfl) ⟨H2.out.p.t1 i hi, H2.out.bx 2 _ rfl, H2.out.p.rg i k hi hk⟩ (fun hHeld => ?_); simp only [List.size_toArray, List.length_cons, List.length_nil, Nat.reduceAdd, Array.replicate_succ, Array.replicate_zero, List.push_toArray, List.append_toArray, List.nil_append, List.cons_append])
  refine rgT 0 (h := ?_)
  refine rgT 1 (h := ?_)
  refine rgT 2 (h := ?_)
  refine rgT 3 (h := ?_)
  refine rgT 4 (h := ?_)
  refine rgT 5 (h := ?_)
  refine rgT 6 (h := ?_)
  refine rgT 7 (h := ?_)
  refine rgT 8 (h := ?_)
  refine rgT 9 (h := ?_)
  refine wpAnyH_done (by kernel_rfl) ?_ _
  go_wp2_with fail
  have H3 : Hid (Rk w W2.drew R ⟨s.wo, s.rg, upd s.pl i (pl + 1)⟩ g ⟨5, c, k, nr, ni, orr, oi, n⟩) := H2.out.drew
  clear H2
  generalize W2.drew = W3 at *
  (refine wp_region_held_drew (S := (fun W => W.cell? ⟨R.tb, i * 3 + 2, none⟩ = some (.int .i64 ((pl + 1 : Nat) : Int)) ∧ W.cell? ⟨R.tb, i * 3, none⟩ = some (.slice (some ⟨ib, 0, none⟩) m (R.icap i)))) (by kernel_rfl) ⟨H3.out.p.t2' hi, H3.out.p.t0' hi hia hml⟩ (fun hHeld => ?_); simp only [List.size_toArray, List.length_cons, List.length_nil, Nat.reduceAdd, Array.replicate_succ, Array.replicate_zero, List.push_toArray, List.append_toArray, List.nil_append, List.cons_append])
  refine rgT 0 (h := ?_)
  refine rgT 1 (h := ?_)
  refine rgT 2 (h := ?_)
  refine rgT 3 (h := ?_)
  refine rgT 4 (h := ?_)
  refine rgT 5 (h := ?_)
  refine rgT 6 (h := ?_)
  refine rgT 7 (h := ?_)
  refine rgT 8 (h := ?_)
  refine rgT 9 (h := ?_)
  refine rgT 10 (h := ?_)
  refine wpAnyH_done (by kernel_rfl) ?_ _
  go_wp2
  go_ret
  have e1 : decide ((m : Int) ≤ (((pl + 1 : Nat)) : Int)) = decide (m ≤ pl + 1) := by congr 1; exact propext ⟨fun h => by omega, fun h => by omega⟩
  exact ⟨by simpa using e1, H3.out.drew.p, H3.out.drew.k⟩
end Go.Proofs.YtdpebhdjcgiboaaGreat

namespace Go.Proofs.YtdpebhdjcgiboaaGreat
set_option linter.unusedSimpArgs false
open Go.ChangeShapes Go.WideShapes Go.ChangeAt Go.RowKit Go.MuLone Go.RwLone
set_option linter.unusedVariables false
set_option maxRecDepth 100000
set_option maxHeartbeats 3200000
theorem upd_self {α : Type} (f : Nat → α) (i : Nat) : upd f i (f i) = f := by
  funext k
  by_cases e : k = i
  · subst e; rw [upd_same]
  · rw [upd_other _ _ e]
/-- A step of the document's thread number i: what stI says. -/
theorem rstep_any (R : Rd) (hR : RdOk R) (w : World) (s : Ls) (h : RP R w s) (i : Nat) (hi : i < R.n) :
    Calls Tryz.prog 69 #[.pointer (some ⟨R.bk, 0, none⟩), .int .i64 (i : Int)] w fun e w' => e = .returned (.bool (decide ((R.ins i).length ≤ (stI R.ins s i).pl i))) ∧ RP R w' (stI R.ins s i) ∧ Keeps (fRw R) w w' := by
  by_cases hp : s.pl i < (R.ins i).length
  · have hsd := hR.sd i hi _ (List.getElem_mem hp)
    obtain ⟨ib, hia, h8⟩ := h.ro i hi (s.pl i) hp
    have hm := hR.ln i hi
    have es : stI R.ins s i = ⟨(exP s.wo (s.rg i) (R.ins i)[s.pl i]).1, upd s.rg i (exP s.wo (s.rg i) (R.ins i)[s.pl i]).2.1, upd s.pl i (min (s.pl i + (exP s.wo (s.rg i) (R.ins i)[s.pl i]).2.2) (R.ins i).length)⟩ := by
      unfold stI
      rw [tsP_in hp]
    suffices hS : ∀ S', stI R.ins s i = S' → ∀ X, S'.pl i = X → Calls Tryz.prog 69 #[.pointer (some ⟨R.bk, 0, none⟩), .int .i64 (i : Int)] w fun e w' => e = .returned (.bool (decide ((R.ins i).length ≤ X))) ∧ RP R w' S' ∧ Keeps (fRw R) w w' from hS _ rfl _ rfl
    intro S' hS X hX
    rw [es] at hS
    clear es
    subst hS
    dsimp only at hX
    rw [upd_same] at hX
    subst hX
    generalize (R.ins i)[s.pl i] = x at *
    suffices fin : ∃ E X, exP s.wo (s.rg i) x = E ∧ min (s.pl i + E.2.2) (R.ins i).length = X ∧ Calls Tryz.prog 69 #[.pointer (some ⟨R.bk, 0, none⟩), .int .i64 (i : Int)] w fun e w' => e = .returned (.bool (decide ((R.ins i).length ≤ X))) ∧ RP R w' ⟨E.1, upd s.rg i E.2.1, upd s.pl i X⟩ ∧ Keeps (fRw R) w w' by
      obtain ⟨E, X, rfl, rfl, q⟩ := fin
      exact q
    obtain ⟨op, c, r, nr, ni, orr, oi, n⟩ := x
    have e1 : min (s.pl i + 1) (R.ins i).length = s.pl i + 1 := by omega
    rcases hsd with ⟨e, hc, hr4⟩ | ⟨e, hc, hv⟩ | ⟨e, hc, hr4, ho, hv⟩ | ⟨e, hc, hr4, hv⟩ | ⟨e, hr4, hv, hn1⟩
    · simp only at e hc hr4
      subst e
      have q := rstep_1 R hR w s h i hi (s.pl i) _ ib c r nr ni orr oi n hia rfl h8 hp hm rfl hc.1 hc.2 hr4.1 hr4.2
      have ex : exP s.wo (s.rg i) ⟨1, c, r, nr, ni, orr, oi, n⟩ = (s.wo, upd (s.rg i) r.toNat (s.wo c.toNat), 1) := by simp [exP]
      exact ⟨_, _, ex, e1, q⟩
    · simp only at e hc hv
      subst e
      have q := rstep_2 R hR w s h i hi (s.pl i) _ ib c r nr ni orr oi n hia rfl h8 hp hm rfl hc.1 hc.2 hv.2
      have ex : exP s.wo (s.rg i) ⟨2, c, r, nr, ni, orr, oi, n⟩ = (upd s.wo c.toNat (valP (s.rg i) nr ni), s.rg i, 1) := by simp [exP]
      exact ⟨_, _, ex, e1, by dsimp only; rw [upd_self]; exact q⟩
    · simp only at e hc hr4 ho hv
      subst e
      by_cases hq : s.wo c.toNat = valP (s.rg i) orr oi
      · have q := rstep_3h R hR w s h i hi (s.pl i) _ ib c r nr ni orr oi n hia rfl h8 hp hm rfl hc.1 hc.2 hr4.1 hr4.2 hv.2 ho.2 hq
        have ex : exP s.wo (s.rg i) ⟨3, c, r, nr, ni, orr, oi, n⟩ = (upd s.wo c.toNat (valP (s.rg i) nr ni), upd (s.rg i) r.toNat 1, 1) := by simp [exP, hq]
        exact ⟨_, _, ex, e1, q⟩
      · have q := rstep_3m R hR w s h i hi (s.pl i) _ ib c r nr ni orr oi n hia rfl h8 hp hm rfl hc.1 hc.2 hr4.1 hr4.2 hv.2 ho.2 hq
        have ex : exP s.wo (s.rg i) ⟨3, c, r, nr, ni, orr, oi, n⟩ = (s.wo, upd (s.rg i) r.toNat 0, 1) := by simp [exP, hq]
        exact ⟨_, _, ex, e1, q⟩
    · simp only at e hc hr4 hv
      subst e
      have q := rstep_4 R hR w s h i hi (s.pl i) _ ib c r nr ni orr oi n hia rfl h8 hp hm rfl hc.1 hc.2 hr4.1 hr4.2 hv.2
      have ex : exP s.wo (s.rg i) ⟨4, c, r, nr, ni, orr, oi, n⟩ = (upd s.wo c.toNat ((s.wo c.toNat + valP (s.rg i) nr ni) % 18446744073709551616), upd (s.rg i) r.toNat (s.wo c.toNat), 1) := by simp [exP]
      exact ⟨_, _, ex, e1, q⟩
    · simp only at e hr4 hv hn1
      subst e
      by_cases hq : s.rg i r.toNat = valP (s.rg i) nr ni
      · have q := rstep_5h R hR w s h i hi (s.pl i) _ ib c r nr ni orr oi n hia rfl h8 hp hm rfl hr4.1 hr4.2 hv.2 hn1.1 hn1.2 hq _ rfl
        have ex : exP s.wo (s.rg i) ⟨5, c, r, nr, ni, orr, oi, n⟩ = (s.wo, s.rg i, 1 + n.toNat) := by simp [exP, hq]
        exact ⟨_, _, ex, rfl, by dsimp only; rw [upd_self]; exact q⟩
      · have q := rstep_5m R hR w s h i hi (s.pl i) _ ib c r nr ni orr oi n hia rfl h8 hp hm rfl hr4.1 hr4.2 hv.2 hq
        have ex : exP s.wo (s.rg i) ⟨5, c, r, nr, ni, orr, oi, n⟩ = (s.wo, s.rg i, 1) := by simp [exP, hq]
        exact ⟨_, _, ex, e1, by dsimp only; rw [upd_self]; exact q⟩
  · have es : stI R.ins s i = s := by
      unfold stI
      rw [tsP_out hp]
      dsimp only
      rw [upd_self, upd_self]
    rw [es]
    refine (rstep_done R w s h i hi hR.n4 hp (hR.ln i hi)).mono ?_
    rintro e w' ⟨rfl, k⟩
    exact ⟨by rw [decide_eq_true (by omega)], h.still k, k.mono (fun _ e => e.elim)⟩
end Go.Proofs.YtdpebhdjcgiboaaGreat

namespace Go.Proofs.YtdpebhdjcgiboaaGreat
open Go.ChangeShapes Go.WideShapes Go.ChangeAt Go.RowKit Go.MuLone Go.RwLone
set_option linter.unusedVariables false
set_option maxRecDepth 100000
set_option maxHeartbeats 3200000
/-- A place of the document's queue. -/
def plR (x : Pq) : List Value := [.int .i64 (x.1 : Int), .int .i64 x.2.1, .bool x.2.2]
def inR (x : Nat) : List Value := [.int .i64 (x : Int)]
abbrev haR (pt qb n : Nat) (st : Int) (ev en : Value) : Array Value := #[.pointer (some ⟨pt, 0, none⟩), .slice (some ⟨qb, 0, none⟩) n n, .int .i64 st, ev, en]
abbrev OwR (w : World) (v : Value) (xs : List Pq) : Prop := OwG plR 219 3 w 0 v xs
abbrev OwI (w : World) (B : Nat) (v : Value) (xs : List Nat) : Prop := OwG inR 3 1 w B v xs
/-- A harness in its blocks, all of which F holds. -/
structure Rh (w : World) (F : Nat → Prop) (pt : Nat) (hb qb : Nat) (qv : Nat → Value) (ev en : Value) (h : Hp) : Prop where
  hc : w.heap[hb]? = some (.cells (haR pt qb h.q.length h.st ev en) 158)
  qt : ∃ c, w.heap[qb]? = some (.cells c 217)
  qc : ∀ i, i < h.q.length → w.cell? ⟨qb, i, none⟩ = some (qv i)
  ql : ∀ i (hi : i < h.q.length), OwR w (qv i) h.q[i]
  qa : ∀ i j g, i < h.q.length → j < h.q.length → i ≠ j → (qv i).ownBlock = some g → (qv j).ownBlock = some g → False
  oe : OwE w 0 ev h.ev
  ot : OwI w 0 en h.en
  fh : F hb
  fq : F qb
  fr : ∀ i g, i < h.q.length → (qv i).ownBlock = some g → F g
  fe : ∀ g, ev.ownBlock = some g → F g
  fn : ∀ g, en.ownBlock = some g → F g
  lt : ∀ x, F x → x < w.heap.size
  n16 : h.q.length ≤ 16
variable {w : World} {F : Nat → Prop} {pt : Nat} {hb qb : Nat} {qv : Nat → Value} {ev en : Value} {h : Hp}
theorem Rh.keeps {w' : World} {D : Nat → Prop} (m : Rh w F pt hb qb qv ev en h) (k : Keeps D w w') (hD : ∀ x, D x → ¬ F x) : Rh w' F pt hb qb qv ev en h := by
  have hq := m.lt _ m.fq
  refine ⟨(k.block _ (m.lt _ m.fh) (fun e => hD _ e m.fh)).trans m.hc, ?_, fun i hi => (k.cell (p := ⟨qb, i, none⟩) hq (fun e => hD _ e m.fq)).trans (m.qc i hi), fun i hi => owK (m.ql i hi) k (fun g hg e => hD _ e (m.fr i g hi hg)), m.qa, owK m.oe k (fun g hg e => hD _ e (m.fe g hg)), owK m.ot k (fun g hg e => hD _ e (m.fn g hg)), m.fh, m.fq, m.fr, m.fe, m.fn, fun x hx => Nat.lt_of_lt_of_le (m.lt x hx) k.size, m.n16⟩
  obtain ⟨c, hc⟩ := m.qt
  exact ⟨c, (k.block _ hq (fun e => hD _ e m.fq)).trans hc⟩
theorem Rh.still {w' : World} (m : Rh w F pt hb qb qv ev en h) (k : Keeps (fun _ => False) w w') : Rh w' F pt hb qb qv ev en h := m.keeps k (fun _ e => e.elim)
theorem Rh.hq (m : Rh w F pt hb qb qv ev en h) : hb ≠ qb := by
  obtain ⟨c, hc⟩ := m.qt
  exact neT m.hc hc (by decide)
theorem Rh.rows (m : Rh w F pt hb qb qv ev en h) (i : Nat) (hi : i < h.q.length) (g : Nat) (hg : (qv i).ownBlock = some g) : g ≠ hb ∧ g ≠ qb ∧ ev.ownBlock ≠ some g ∧ en.ownBlock ≠ some g := by
  obtain ⟨c, hc⟩ := blk (m.ql i hi) hg
  obtain ⟨d, hd⟩ := m.qt
  refine ⟨neT hc m.hc (by decide), neT hc hd (by decide), fun e => ?_, fun e => ?_⟩
  · obtain ⟨c', hc'⟩ := blk m.oe e
    exact neT hc hc' (by decide) rfl
  · obtain ⟨c', hc'⟩ := blk m.ot e
    exact neT hc hc' (by decide) rfl
theorem Rh.evs (m : Rh w F pt hb qb qv ev en h) (g : Nat) (hg : ev.ownBlock = some g) : g ≠ hb ∧ g ≠ qb ∧ en.ownBlock ≠ some g := by
  obtain ⟨c, hc⟩ := blk m.oe hg
  obtain ⟨d, hd⟩ := m.qt
  refine ⟨neT hc m.hc (by decide), neT hc hd (by decide), fun e => ?_⟩
  obtain ⟨c', hc'⟩ := blk m.ot e
  exact neT hc hc' (by decide) rfl
theorem Rh.ens (m : Rh w F pt hb qb qv ev en h) (g : Nat) (hg : en.ownBlock = some g) : g ≠ hb ∧ g ≠ qb := by
  obtain ⟨c, hc⟩ := blk m.ot hg
  obtain ⟨d, hd⟩ := m.qt
  exact ⟨neT hc m.hc (by decide), neT hc hd (by decide)⟩
/-- The steps are stored. -/
theorem Rh.setSt (m : Rh w F pt hb qb qv ev en h) (x : Int) : Rh (w.setCell ⟨hb, 2, none⟩ (.int .i64 x)) F pt hb qb qv ev en { h with st := x } := by
  have k : Keeps (fun g => g = hb) w (w.setCell ⟨hb, 2, none⟩ (.int .i64 x)) := Keeps.setCell (B := fun g => g = hb) (Keeps.refl _ _) rfl _
  have hq := m.lt _ m.fq
  obtain ⟨c, hc⟩ := m.qt
  exact ⟨heapSet m.hc _, ⟨c, (k.block _ hq (fun e => m.hq e.symm)).trans hc⟩, fun i hi => (k.cell (p := ⟨qb, i, none⟩) hq (fun e => m.hq e.symm)).trans (m.qc i hi), fun i hi => owK (m.ql i hi) k (fun g hg e => (m.rows i hi g hg).1 e), m.qa, owK m.oe k (fun g hg e => (m.evs g hg).1 e), owK m.ot k (fun g hg e => (m.ens g hg).1 e), m.fh, m.fq, m.fr, m.fe, m.fn, fun x hx => by simpa using m.lt x hx, m.n16⟩
/-- An event more. -/
theorem Rh.event {w1 : World} {b mm cap : Nat} {es : List (Int × Int × Int × Int)} (m : Rh w F pt hb qb qv ev en h) (k : Keeps (fun g => ev.ownBlock = some g) w w1) (ho : OwE w1 0 (.slice (some ⟨b, 0, none⟩) mm cap) es) (hb' : ev.ownBlock = some b ∨ w.heap.size ≤ b) (hl : b < w1.heap.size) :
    Rh (w1.setCell ⟨hb, 3, none⟩ (.slice (some ⟨b, 0, none⟩) mm cap)) (fun x => F x ∨ x = b) pt hb qb qv (.slice (some ⟨b, 0, none⟩) mm cap) en { h with ev := es } := by
  have hq := m.lt _ m.fq
  have hh := m.lt _ m.fh
  obtain ⟨c, hc⟩ := m.qt
  have k2 : Keeps (fun g => g = hb) w1 (w1.setCell ⟨hb, 3, none⟩ (.slice (some ⟨b, 0, none⟩) mm cap)) := Keeps.setCell (B := fun g => g = hb) (Keeps.refl _ _) rfl _
  have kk : Keeps (fun g => ev.ownBlock = some g ∨ g = hb) w (w1.setCell ⟨hb, 3, none⟩ (.slice (some ⟨b, 0, none⟩) mm cap)) := (k.mono (fun _ e => .inl e)).trans (k2.mono (fun _ e => .inr e))
  have e1 : w1.heap[hb]? = _ := (k.block hb hh (fun e => (m.evs hb e).1 rfl)).trans m.hc
  have nb : b ≠ hb := by
    rcases hb' with e | e
    · exact (m.evs b e).1
    · omega
  refine ⟨heapSet e1 _, ⟨c, (kk.block _ hq (fun e => e.elim (fun e => (m.evs qb e).2.1 rfl) (fun e => m.hq e.symm))).trans hc⟩, fun i hi => (kk.cell (p := ⟨qb, i, none⟩) hq (fun e => e.elim (fun e => (m.evs qb e).2.1 rfl) (fun e => m.hq e.symm))).trans (m.qc i hi), fun i hi => owK (m.ql i hi) kk (fun g hg e => e.elim (fun e => (m.rows i hi g hg).2.2.1 e) (fun e => (m.rows i hi g hg).1 e)), m.qa, owK ho k2 (fun g hg e => nb ((Option.some.inj hg : b = g).trans e)), owK m.ot kk (fun g hg e => e.elim (fun e => (m.evs g e).2.2 hg) (fun e => (m.ens g hg).1 e)), .inl m.fh, .inl m.fq, fun i g hi hg => .inl (m.fr i g hi hg), fun g hg => .inr (Option.some.inj hg : b = g).symm, fun g hg => .inl (m.fn g hg), fun x hx => ?_, m.n16⟩
  rcases hx with hx | hx
  · have := m.lt x hx
    have := kk.size
    omega
  · rw [hx]; simpa using hl
/-- A machine more that has ended. -/
theorem Rh.ended {w1 : World} {b mm cap : Nat} {es : List Nat} (m : Rh w F pt hb qb qv ev en h) (k : Keeps (fun g => en.ownBlock = some g) w w1) (ho : OwI w1 0 (.slice (some ⟨b, 0, none⟩) mm cap) es) (hb' : en.ownBlock = some b ∨ w.heap.size ≤ b) (hl : b < w1.heap.size) :
    Rh (w1.setCell ⟨hb, 4, none⟩ (.slice (some ⟨b, 0, none⟩) mm cap)) (fun x => F x ∨ x = b) pt hb qb qv ev (.slice (some ⟨b, 0, none⟩) mm cap) { h with en := es } := by
  have hq := m.lt _ m.fq
  have hh := m.lt _ m.fh
  obtain ⟨c, hc⟩ := m.qt
  have k2 : Keeps (fun g => g = hb) w1 (w1.setCell ⟨hb, 4, none⟩ (.slice (some ⟨b, 0, none⟩) mm cap)) := Keeps.setCell (B := fun g => g = hb) (Keeps.refl _ _) rfl _
  have kk : Keeps (fun g => en.ownBlock = some g ∨ g = hb) w (w1.setCell ⟨hb, 4, none⟩ (.slice (some ⟨b, 0, none⟩) mm cap)) := (k.mono (fun _ e => .inl e)).trans (k2.mono (fun _ e => .inr e))
  have e1 : w1.heap[hb]? = _ := (k.block hb hh (fun e => (m.ens hb e).1 rfl)).trans m.hc
  have nb : b ≠ hb := by
    rcases hb' with e | e
    · exact (m.ens b e).1
    · omega
  refine ⟨heapSet e1 _, ⟨c, (kk.block _ hq (fun e => e.elim (fun e => (m.ens qb e).2 rfl) (fun e => m.hq e.symm))).trans hc⟩, fun i hi => (kk.cell (p := ⟨qb, i, none⟩) hq (fun e => e.elim (fun e => (m.ens qb e).2 rfl) (fun e => m.hq e.symm))).trans (m.qc i hi), fun i hi => owK (m.ql i hi) kk (fun g hg e => e.elim (fun e => (m.rows i hi g hg).2.2.2 e) (fun e => (m.rows i hi g hg).1 e)), m.qa, owK m.oe kk (fun g hg e => e.elim (fun e => (m.evs g hg).2.2 e) (fun e => (m.evs g hg).1 e)), owK ho k2 (fun g hg e => nb ((Option.some.inj hg : b = g).trans e)), .inl m.fh, .inl m.fq, fun i g hi hg => .inl (m.fr i g hi hg), fun g hg => .inl (m.fe g hg), fun g hg => .inr (Option.some.inj hg : b = g).symm, fun x hx => ?_, m.n16⟩
  rcases hx with hx | hx
  · have := m.lt x hx
    have := kk.size
    omega
  · rw [hx]; simpa using hl
/-- A row is changed in its own block. -/
theorem Rh.row {w1 : World} {P i : Nat} {l : List Pq} {v : Value} (m : Rh w F pt hb qb qv ev en h) (hi : i < h.q.length) (hP : (qv i).ownBlock = some P) (k : Keeps (fun g => g = P) w w1) (ho : OwR w1 v l) (hv : v.ownBlock = some P) :
    Rh (w1.setCell ⟨qb, i, none⟩ v) F pt hb qb (upd qv i v) ev en { h with q := h.q.set i l } := by
  have hq := m.lt _ m.fq
  have hh := m.lt _ m.fh
  have r := m.rows i hi P hP
  obtain ⟨c, hc⟩ := m.qt
  have k2 : Keeps (fun g => g = qb) w1 (w1.setCell ⟨qb, i, none⟩ v) := Keeps.setCell (B := fun g => g = qb) (Keeps.refl _ _) rfl _
  have kk : Keeps (fun g => g = P ∨ g = qb) w (w1.setCell ⟨qb, i, none⟩ v) := (k.mono (fun _ e => .inl e)).trans (k2.mono (fun _ e => .inr e))
  have e1 : w1.heap[qb]? = _ := (k.block qb hq (fun e => r.2.1 e.symm)).trans hc
  have ec : ∀ j, w1.cell? ⟨qb, j, none⟩ = w.cell? ⟨qb, j, none⟩ := fun j => k.cell (p := ⟨qb, j, none⟩) hq (fun e => r.2.1 e.symm)
  have ew : ∀ j, j < h.q.length → ((upd qv i v) j).ownBlock = (qv j).ownBlock := fun j hj => by
    by_cases e : j = i
    · subst e; rw [upd_same, hv, hP]
    · rw [upd_other _ _ e]
  refine ⟨?_, ⟨_, heapSet e1 _⟩, fun j hj => ?_, fun j hj => ?_, fun j j' g hj hj' hn h1 h2 => ?_, owK m.oe kk (fun g hg e => e.elim (fun e => r.2.2.1 (e ▸ hg)) (fun e => (m.evs g hg).2.1 e)), owK m.ot kk (fun g hg e => e.elim (fun e => r.2.2.2 (e ▸ hg)) (fun e => (m.ens g hg).2 e)), m.fh, m.fq, fun j g hj hg => ?_, m.fe, m.fn, fun x hx => Nat.lt_of_lt_of_le (m.lt x hx) kk.size, by simpa using m.n16⟩
  · rw [List.length_set]
    exact (kk.block hb hh (fun e => e.elim (fun e => r.1 e.symm) (fun e => m.hq e))).trans m.hc
  · rw [List.length_set] at hj
    by_cases e : j = i
    · subst e; rw [upd_same]
      exact World.cell?_setCell_same _ _ _ ((ec j).trans (m.qc j hj))
    · rw [upd_other _ _ e, World.cell?_setCell_other _ _ _ _ (fun e' => e (congrArg Addr.off e').symm), ec]
      exact m.qc j hj
  · have hj2 : j < h.q.length := by simpa using hj
    by_cases e : j = i
    · subst e
      rw [upd_same]
      simp only [List.getElem_set_self]
      exact owK ho k2 (fun g hg e => r.2.1 ((Option.some.inj (hv.symm.trans hg) : P = g).trans e))
    · rw [upd_other _ _ e]
      simp only [List.getElem_set_ne (fun e' => e e'.symm)]
      exact owK (m.ql j hj2) kk (fun g hg e' => e'.elim (fun e' => m.qa j i g hj2 hi e hg (e' ▸ hP)) (fun e' => (m.rows j hj2 g hg).2.1 e'))
  · rw [List.length_set] at hj hj'
    rw [ew j hj] at h1
    rw [ew j' hj'] at h2
    exact m.qa j j' g hj hj' hn h1 h2
  · rw [List.length_set] at hj
    rw [ew j hj] at hg
    exact m.fr j g hj hg
theorem Rh.head {w : World} {F : Nat → Prop} {pt : Nat} {hb qb : Nat} {qv : Nat → Value} {ev en : Value} {h : Hp} (m : Rh w F pt hb qb qv ev en h) {i : Nat} (hi : i < h.q.length) {x : Pq} {l : List Pq} (hq : h.q[i] = x :: l) :
    ∃ P cap, qv i = .slice (some ⟨P, 0, none⟩) (x :: l).length cap ∧ (qv i).ownBlock = some P ∧ OwR w (.slice (some ⟨P, 0, none⟩) (x :: l).length cap) (x :: l) ∧ w.cell? ⟨P, 0, none⟩ = some (.int .i64 (x.1 : Int)) ∧ w.cell? ⟨P, 1, none⟩ = some (.int .i64 x.2.1) ∧ w.cell? ⟨P, 2, none⟩ = some (.bool x.2.2) ∧ w.frozen? ⟨P, 2, none⟩ = false := by
  have o := m.ql i hi
  rw [hq] at o
  obtain ⟨P, cap, e, _, _⟩ := owG_some o (by simp)
  rw [e] at o
  exact ⟨P, cap, e, by rw [e]; rfl, o, (World.ownsRow.cellAt o 0 (by simp only [List.length_cons]; omega)).trans rfl, (World.ownsRow.cellAt o 1 (by simp only [List.length_cons]; omega)).trans rfl, (World.ownsRow.cellAt o 2 (by simp only [List.length_cons]; omega)).trans rfl, World.ownsRow.frozenAt o 2⟩
theorem Rh.inrow {w w1 : World} {F : Nat → Prop} {pt : Nat} {hb qb : Nat} {qv : Nat → Value} {ev en : Value} {h : Hp} {P i : Nat} {l : List Pq} (m : Rh w F pt hb qb qv ev en h) (hi : i < h.q.length) (hP : (qv i).ownBlock = some P) (k : Keeps (fun g => g = P) w w1) (ho : OwR w1 (qv i) l) :
    Rh w1 F pt hb qb qv ev en { h with q := h.q.set i l } := by
  have hq := m.lt _ m.fq
  have hh := m.lt _ m.fh
  have r := m.rows i hi P hP
  obtain ⟨c, hc⟩ := m.qt
  refine ⟨?_, ⟨_, (k.block qb hq (fun e => r.2.1 e.symm)).trans hc⟩, fun j hj => ?_, fun j hj => ?_, fun j j' g hj hj' hn h1 h2 => ?_, owK m.oe k (fun g hg e => r.2.2.1 (e ▸ hg)), owK m.ot k (fun g hg e => r.2.2.2 (e ▸ hg)), m.fh, m.fq, fun j g hj hg => ?_, m.fe, m.fn, fun x hx => Nat.lt_of_lt_of_le (m.lt x hx) k.size, by simpa using m.n16⟩
  · rw [List.length_set]
    exact (k.block hb hh (fun e => r.1 e.symm)).trans m.hc
  · rw [List.length_set] at hj
    exact (k.cell (p := ⟨qb, j, none⟩) hq (fun e => r.2.1 e.symm)).trans (m.qc j hj)
  · have hj2 : j < h.q.length := by simpa using hj
    by_cases e : j = i
    · subst e
      simp only [List.getElem_set_self]
      exact ho
    · simp only [List.getElem_set_ne (fun e' => e e'.symm)]
      exact owK (m.ql j hj2) k (fun g hg e' => m.qa j i g hj2 hi e hg (e' ▸ hP))
  · rw [List.length_set] at hj hj'
    exact m.qa j j' g hj hj' hn h1 h2
  · rw [List.length_set] at hj
    exact m.fr j g hj hg
theorem Rh.mark {w : World} {F : Nat → Prop} {pt : Nat} {hb qb : Nat} {qv : Nat → Value} {ev en : Value} {h : Hp} {P i cap : Nat} {x : Pq} {l : List Pq} (m : Rh w F pt hb qb qv ev en h) (hi : i < h.q.length) (hv : qv i = .slice (some ⟨P, 0, none⟩) (x :: l).length cap) (ho : OwR w (.slice (some ⟨P, 0, none⟩) (x :: l).length cap) (x :: l)) :
    Rh (w.setCell ⟨P, 2, none⟩ (.bool true)) F pt hb qb qv ev en { h with q := h.q.set i ((x.1, x.2.1, true) :: l) } := by
  have hP : (qv i).ownBlock = some P := by rw [hv]; rfl
  refine m.inrow hi hP (Keeps.setCell (B := fun g => g = P) (Keeps.refl _ _) rfl _) ?_
  rw [hv]
  have h2 := (World.ownsRow.stored ho 2 (.bool true)).1
  exact h2
end Go.Proofs.YtdpebhdjcgiboaaGreat

namespace Go.Proofs.YtdpebhdjcgiboaaGreat
open Go.ChangeShapes Go.WideShapes Go.ChangeAt Go.RowKit Go.MuLone Go.RwLone
set_option linter.unusedVariables false
set_option maxRecDepth 100000
set_option maxHeartbeats 3200000
end Go.Proofs.YtdpebhdjcgiboaaGreat

namespace Go.Proofs.YtdpebhdjcgiboaaGreat
open Go.ChangeShapes Go.WideShapes Go.ChangeAt Go.RowKit Go.MuLone Go.RwLone
set_option linter.unusedVariables false
set_option maxRecDepth 100000
set_option maxHeartbeats 3200000
/-- In the midst of a step: what has come of the harness and the machines since w. -/
structure Mr (R : Rd) (w wx : World) (F : Nat → Prop) (hb qb : Nat) (F' : Nat → Prop) (qv : Nat → Value) (ev en : Value) (h : Hp) (s : Ls) : Prop where
  m : Rh wx F' R.bk hb qb qv ev en h
  o : RP R wx s
  k : Keeps (fun x => F x ∨ fRw R x) w wx
  f : ∀ y, F' y → F y ∨ w.heap.size ≤ y
  d : ∀ y, F' y → ¬ fR R y
theorem Mr.next {R : Rd} {w wx wy : World} {F : Nat → Prop} {hb qb : Nat} {F' F'' : Nat → Prop} {qv qv' : Nat → Value} {ev en ev' en' : Value} {h h' : Hp} {s : Ls} (a : Mr R w wx F hb qb F' qv ev en h s) (m : Rh wy F'' R.bk hb qb qv' ev' en' h') (k : Keeps F' wx wy) (f : ∀ y, F'' y → F' y ∨ wx.heap.size ≤ y) : Mr R w wy F hb qb F'' qv' ev' en' h' s := by
  have hs := a.k.size
  refine ⟨m, a.o.keeps k a.d, ⟨k.os.trans a.k.os, k.tape.trans a.k.tape, k.output.trans a.k.output, Nat.le_trans hs k.size, fun g hg hn => (k.block g (by omega) (fun e => (a.f g e).elim (fun e => hn (.inl e)) (fun e => by omega))).trans (a.k.block g hg hn)⟩, fun y hy => ?_, fun y hy hM => ?_⟩
  · rcases f y hy with e | e
    · exact a.f y e
    · right; omega
  · rcases f y hy with e | e
    · exact a.d y e hM
    · have := a.o.lt _ hM
      omega
theorem Mr.go {R : Rd} {w wx wy : World} {F : Nat → Prop} {hb qb : Nat} {F' : Nat → Prop} {qv : Nat → Value} {ev en : Value} {h : Hp} {s s' : Ls} (a : Mr R w wx F hb qb F' qv ev en h s) (o : RP R wy s') (k : Keeps (fRw R) wx wy) : Mr R w wy F hb qb F' qv ev en h s' :=
  ⟨a.m.keeps k (fun y hM hy => a.d y hy (.inl hM)), o, a.k.trans (k.mono (fun _ e => .inr e)), a.f, a.d⟩
theorem Mr.start {R : Rd} {w : World} {F : Nat → Prop} {hb qb : Nat} {qv : Nat → Value} {ev en : Value} {h : Hp} {s : Ls} (m : Rh w F R.bk hb qb qv ev en h) (o : RP R w s) (d : ∀ y, F y → ¬ fR R y) : Mr R w w F hb qb F qv ev en h s := ⟨m, o, Keeps.refl _ _, fun _ e => .inl e, d⟩
theorem Mr.still {R : Rd} {w wx wy : World} {F : Nat → Prop} {hb qb : Nat} {F' : Nat → Prop} {qv : Nat → Value} {ev en : Value} {h : Hp} {s : Ls} (a : Mr R w wx F hb qb F' qv ev en h s) (k : Keeps (fun _ => False) wx wy) : Mr R w wy F hb qb F' qv ev en h s := a.go (a.o.still k) (k.mono (fun _ e => e.elim))
end Go.Proofs.YtdpebhdjcgiboaaGreat

namespace Go.Proofs.YtdpebhdjcgiboaaGreat
set_option linter.unusedSimpArgs false
open Go.ChangeShapes Go.WideShapes Go.ChangeAt Go.RowKit Go.MuLone Go.RwLone
set_option linter.unusedVariables false
set_option maxRecDepth 100000
set_option maxHeartbeats 3200000
/-- A row lies in a new block from now on. -/
theorem Rh.moved {w w1 : World} {F : Nat → Prop} {pt hb qb : Nat} {qv : Nat → Value} {ev en : Value} {h : Hp} {b i : Nat} {l : List Pq} {v : Value} (m : Rh w F pt hb qb qv ev en h) (hi : i < h.q.length) (k : Keeps (fun _ => False) w w1) (ho : OwR w1 v l) (hv : v.ownBlock = some b) (hb' : w.heap.size ≤ b) (hl : b < w1.heap.size) :
    Rh (w1.setCell ⟨qb, i, none⟩ v) (fun x => F x ∨ x = b) pt hb qb (upd qv i v) ev en { h with q := h.q.set i l } := by
  have hq := m.lt _ m.fq
  have hh := m.lt _ m.fh
  obtain ⟨c, hc⟩ := m.qt
  have k2 : Keeps (fun g => g = qb) w1 (w1.setCell ⟨qb, i, none⟩ v) := Keeps.setCell (B := fun g => g = qb) (Keeps.refl _ _) rfl _
  have kk : Keeps (fun g => g = qb) w (w1.setCell ⟨qb, i, none⟩ v) := (k.mono (fun _ e => e.elim)).trans k2
  have e1 : w1.heap[qb]? = _ := (k.block qb hq (fun e => e)).trans hc
  have ec : ∀ j, w1.cell? ⟨qb, j, none⟩ = w.cell? ⟨qb, j, none⟩ := fun j => k.cell (p := ⟨qb, j, none⟩) hq (fun e => e)
  have lo : ∀ j g, j < h.q.length → (qv j).ownBlock = some g → g < w.heap.size := fun j g hj hg => m.lt _ (m.fr j g hj hg)
  refine ⟨?_, ⟨_, heapSet e1 _⟩, fun j hj => ?_, fun j hj => ?_, fun j j' g hj hj' hn h1 h2 => ?_, owK m.oe kk (fun g hg e => (m.evs g hg).2.1 e), owK m.ot kk (fun g hg e => (m.ens g hg).2 e), .inl m.fh, .inl m.fq, fun j g hj hg => ?_, fun g hg => .inl (m.fe g hg), fun g hg => .inl (m.fn g hg), fun x hx => ?_, by simpa using m.n16⟩
  · rw [List.length_set]
    exact (kk.block hb hh (fun e => m.hq e)).trans m.hc
  · rw [List.length_set] at hj
    by_cases e : j = i
    · subst e; rw [upd_same]
      exact World.cell?_setCell_same _ _ _ ((ec j).trans (m.qc j hj))
    · rw [upd_other _ _ e, World.cell?_setCell_other _ _ _ _ (fun e' => e (congrArg Addr.off e').symm), ec]
      exact m.qc j hj
  · have hj2 : j < h.q.length := by simpa using hj
    by_cases e : j = i
    · subst e
      simp only [List.getElem_set_self]
      rw [upd_same]
      refine owK ho k2 (fun g hg e => ?_)
      rw [hv] at hg
      have := Option.some.inj hg
      omega
    · simp only [List.getElem_set_ne (fun e' => e e'.symm)]
      rw [upd_other _ _ e]
      exact owK (m.ql j hj2) kk (fun g hg e' => (m.rows j hj2 g hg).2.1 e')
  · rw [List.length_set] at hj hj'
    by_cases e : j = i
    · subst e
      rw [upd_same, hv] at h1
      rw [upd_other _ _ (fun e => hn e.symm)] at h2
      have := lo j' g hj' h2
      have := Option.some.inj h1
      omega
    · rw [upd_other _ _ e] at h1
      by_cases e' : j' = i
      · subst e'
        rw [upd_same, hv] at h2
        have := lo j g hj h1
        have := Option.some.inj h2
        omega
      · rw [upd_other _ _ e'] at h2
        exact m.qa j j' g hj hj' hn h1 h2
  · rw [List.length_set] at hj
    by_cases e : j = i
    · subst e
      rw [upd_same, hv] at hg
      exact .inr (Option.some.inj hg).symm
    · rw [upd_other _ _ e] at hg
      exact .inl (m.fr j g hj hg)
  · rcases hx with hx | hx
    · have := m.lt x hx
      have := kk.size
      omega
    · rw [hx]; simpa using hl
end Go.Proofs.YtdpebhdjcgiboaaGreat

namespace Go.Proofs.YtdpebhdjcgiboaaGreat
open Go.ChangeShapes Go.WideShapes Go.ChangeAt Go.RowKit Go.MuLone Go.RwLone
set_option linter.unusedVariables false
set_option maxRecDepth 100000
set_option maxHeartbeats 3200000
/-- The document's machines without memory. -/
abbrev PM (R : Rd) : Mc := pureM R.ins R.n
/-- The document's harness and its program, since w. -/
structure Pr (R : Rd) (w wr : World) (F : Nat → Prop) (hb qb : Nat) (a : Hp × Ls) : Prop where
  mid : ∃ F' qv ev en, Rh wr F' R.bk hb qb qv ev en a.1 ∧ (∀ y, F' y → F y ∨ w.heap.size ≤ y) ∧ (∀ y, F' y → ¬ fR R y)
  o : RP R wr a.2
  k : Keeps (fun x => F x ∨ fRw R x) w wr
  iv : Iv R.n a.1
theorem Pr.still {R : Rd} {w wr wy : World} {F : Nat → Prop} {hb qb : Nat} {a : Hp × Ls} (p : Pr R w wr F hb qb a) (k : Keeps (fun _ => False) wr wy) : Pr R w wy F hb qb a := by
  obtain ⟨F', qv, ev, en, m, f, d⟩ := p.mid
  exact ⟨⟨F', qv, ev, en, m.still k, f, d⟩, p.o.still k, p.k.trans (k.mono (fun _ e => e.elim)), p.iv⟩
end Go.Proofs.YtdpebhdjcgiboaaGreat

namespace Go.Proofs.YtdpebhdjcgiboaaGreat
open Go.ChangeShapes Go.WideShapes Go.ChangeAt Go.RowKit Go.MuLone Go.RwLone
set_option linter.unusedVariables false
set_option maxRecDepth 100000
set_option maxHeartbeats 3200000
end Go.Proofs.YtdpebhdjcgiboaaGreat

namespace Go.Proofs.YtdpebhdjcgiboaaGreat
open Go.ChangeShapes Go.WideShapes Go.ChangeAt Go.RowKit Go.MuLone Go.RwLone
set_option linter.unusedVariables false
set_option maxRecDepth 100000
set_option maxHeartbeats 3200000
end Go.Proofs.YtdpebhdjcgiboaaGreat

namespace Go.Proofs.YtdpebhdjcgiboaaGreat
open Go.ChangeShapes Go.WideShapes Go.ChangeAt Go.RowKit Go.MuLone Go.RwLone
set_option linter.unusedVariables false
set_option maxRecDepth 100000
set_option maxHeartbeats 3200000
end Go.Proofs.YtdpebhdjcgiboaaGreat

namespace Go.Proofs.YtdpebhdjcgiboaaGreat
open Go.ChangeShapes Go.WideShapes Go.ChangeAt Go.RowKit Go.MuLone Go.RwLone
set_option linter.unusedVariables false
set_option maxRecDepth 100000
set_option maxHeartbeats 3200000
/-- The code of a play that bore, or did not. -/
def erC (b : Bool) : Int := if b then 0 else 34
end Go.Proofs.YtdpebhdjcgiboaaGreat

namespace Go.Proofs.YtdpebhdjcgiboaaGreat
open Go.ChangeShapes Go.WideShapes Go.ChangeAt Go.RowKit Go.MuLone Go.RwLone
set_option linter.unusedVariables false
set_option maxRecDepth 100000
set_option maxHeartbeats 3200000
end Go.Proofs.YtdpebhdjcgiboaaGreat
