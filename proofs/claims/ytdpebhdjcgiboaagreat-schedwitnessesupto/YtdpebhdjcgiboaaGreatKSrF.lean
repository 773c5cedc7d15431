import Derived.Test.YtdpebhdjcgiboaaGreatKSg9
import Derived.Handy
import Derived.Deep.DeepCutAuto
namespace Go.Proofs.YtdpebhdjcgiboaaGreat
set_option linter.unusedSimpArgs false
open Go.ChangeShapes Go.WideShapes Go.ChangeAt Go.RowKit Go.MuLone Go.RwLone
set_option linter.unusedVariables false
set_option maxRecDepth 100000
set_option maxHeartbeats 3200000
/-- Where the document's program lies. -/
structure Rd where
  bk : Nat
  tb : Nat
  cb : Nat
  rb : Nat → Nat
  rk : Nat → Nat
  ia : Nat → Option Addr
  icap : Nat → Nat
  wd : Nat
  n : Nat
  cc : Nat
  tc : Nat
  ins : Nat → List I8
/-- The blocks that its steps write. -/
def fRw (R : Rd) (y : Nat) : Prop := y = R.tb ∨ y = R.cb ∨ ∃ j, j < R.n ∧ y = R.rb j
/-- All of its blocks. -/
def fR (R : Rd) (y : Nat) : Prop := fRw R y ∨ y = R.bk ∨ ∃ j, j < R.n ∧ R.ia j = some ⟨y, 0, none⟩
structure RdOk (R : Rd) : Prop where
  bk : ¬ fRw R R.bk
  tc : R.tb ≠ R.cb
  tr : ∀ j, j < R.n → R.rb j ≠ R.tb ∧ R.rb j ≠ R.cb
  rr : ∀ i j, i < R.n → j < R.n → i ≠ j → R.rb i ≠ R.rb j
  ib : ∀ j ib, j < R.n → R.ia j = some ⟨ib, 0, none⟩ → ¬ fRw R ib
  sd : ∀ i, i < R.n → ∀ x ∈ R.ins i, snd R.wd x
  ln : ∀ i, i < R.n → (R.ins i).length ≤ 1000
  n4 : R.n ≤ 4
structure RP (R : Rd) (w : World) (s : Ls) : Prop where
  p0 : w.cell? ⟨R.bk, 0, none⟩ = some (.slice (some ⟨R.cb, 0, none⟩) R.wd R.cc)
  p1 : w.cell? ⟨R.bk, 1, none⟩ = some (.slice (some ⟨R.tb, 0, none⟩) R.n R.tc)
  t0 : ∀ i, i < R.n → w.cell? ⟨R.tb, i * 3, none⟩ = some (.slice (R.ia i) (R.ins i).length (R.icap i))
  t1 : ∀ i, i < R.n → w.cell? ⟨R.tb, i * 3 + 1, none⟩ = some (.slice (some ⟨R.rb i, 0, none⟩) 4 (4 + R.rk i))
  t2 : ∀ i, i < R.n → w.cell? ⟨R.tb, i * 3 + 2, none⟩ = some (.int .i64 (s.pl i : Int))
  rg : ∀ i j, i < R.n → j < 4 → w.cell? ⟨R.rb i, j, none⟩ = some (.int .u64 (s.rg i j))
  ce : ∀ c, c < R.wd → w.cell? ⟨R.cb, c, none⟩ = some (.int .u64 (s.wo c))
  ro : ∀ i, i < R.n → Ro w (R.ia i) (R.ins i)
  fz : ∀ g j, fRw R g → w.frozen? ⟨g, j, none⟩ = false
  lt : ∀ y, fR R y → y < w.heap.size
theorem RP.keeps {R : Rd} {w w' : World} {s : Ls} {D : Nat → Prop} (h : RP R w s) (k : Keeps D w w') (hD : ∀ y, D y → ¬ fR R y) : RP R w' s := by
  have e : ∀ g j, fR R g → w'.cell? ⟨g, j, none⟩ = w.cell? ⟨g, j, none⟩ := fun g j hg => k.cell (p := ⟨g, j, none⟩) (h.lt g hg) (fun e => hD g e hg)
  exact ⟨(e _ _ (.inr (.inl rfl))).trans h.p0, (e _ _ (.inr (.inl rfl))).trans h.p1, fun i hi => (e _ _ (.inl (.inl rfl))).trans (h.t0 i hi), fun i hi => (e _ _ (.inl (.inl rfl))).trans (h.t1 i hi), fun i hi => (e _ _ (.inl (.inl rfl))).trans (h.t2 i hi), fun i j hi hj => (e _ _ (.inl (.inr (.inr ⟨i, hi, rfl⟩)))).trans (h.rg i j hi hj), fun c hc => (e _ _ (.inl (.inr (.inl rfl)))).trans (h.ce c hc), fun i hi => (h.ro i hi).keeps k (fun ib e' e'' => hD ib e'' (.inr (.inr ⟨i, hi, e'⟩))), fun g j hg => (k.frozen (p := ⟨g, j, none⟩) (h.lt g (.inl hg)) (fun e => hD g e (.inl hg))).trans (h.fz g j hg), fun y hy => Nat.lt_of_lt_of_le (h.lt y hy) k.size⟩
theorem RP.still {R : Rd} {w w' : World} {s : Ls} (h : RP R w s) (k : Keeps (fun _ => False) w w') : RP R w' s := h.keeps k (fun _ e => e.elim)
theorem RP.set {R : Rd} (hR : RdOk R) {w : World} {s s' : Ls} {g j : Nat} {v : Value} (h : RP R w s) (hg : fRw R g)
    (h0 : ∀ i, i < R.n → ¬ (g = R.tb ∧ j = i * 3)) (h1 : ∀ i, i < R.n → ¬ (g = R.tb ∧ j = i * 3 + 1))
    (t2 : ∀ i, i < R.n → (w.setCell ⟨g, j, none⟩ v).cell? ⟨R.tb, i * 3 + 2, none⟩ = some (.int .i64 (s'.pl i : Int)))
    (rg : ∀ i k, i < R.n → k < 4 → (w.setCell ⟨g, j, none⟩ v).cell? ⟨R.rb i, k, none⟩ = some (.int .u64 (s'.rg i k)))
    (ce : ∀ c, c < R.wd → (w.setCell ⟨g, j, none⟩ v).cell? ⟨R.cb, c, none⟩ = some (.int .u64 (s'.wo c))) : RP R (w.setCell ⟨g, j, none⟩ v) s' := by
  have o : ∀ g' j', (g' ≠ g ∨ j' ≠ j) → (w.setCell ⟨g, j, none⟩ v).cell? ⟨g', j', none⟩ = w.cell? ⟨g', j', none⟩ := fun g' j' hn => World.cell?_setCell_other _ _ _ _ (fun e => hn.elim (fun hn => hn (congrArg Addr.block e).symm) (fun hn => hn (congrArg Addr.off e).symm))
  have k : Keeps (fun y => y = g) w (w.setCell ⟨g, j, none⟩ v) := Keeps.setCell (B := fun y => y = g) (Keeps.refl _ _) rfl _
  have nb : R.bk ≠ g := fun e => hR.bk (e ▸ hg)
  refine ⟨(o _ _ (.inl nb)).trans h.p0, (o _ _ (.inl nb)).trans h.p1, fun i hi => (o _ _ ?_).trans (h.t0 i hi), fun i hi => (o _ _ ?_).trans (h.t1 i hi), t2, rg, ce, fun i hi => (h.ro i hi).keeps k (fun ib e e' => hR.ib i ib hi e (e' ▸ hg)), fun g' j' hg' => by simpa using h.fz g' j' hg', fun y hy => by simpa using h.lt y hy⟩
  · by_cases e : R.tb = g
    · exact .inr (fun e' => h0 i hi ⟨e.symm, e'.symm⟩)
    · exact .inl e
  · by_cases e : R.tb = g
    · exact .inr (fun e' => h1 i hi ⟨e.symm, e'.symm⟩)
    · exact .inl e
theorem RP.setPl {R : Rd} (hR : RdOk R) {w : World} {s : Ls} (h : RP R w s) (i x : Nat) (hi : i < R.n) : RP R (w.setCell ⟨R.tb, i * 3 + 2, none⟩ (.int .i64 (x : Int))) ⟨s.wo, s.rg, upd s.pl i x⟩ := by
  refine h.set hR (.inl rfl) (fun k _ e => by omega) (fun k _ e => by omega) (fun k hk => ?_) (fun k j hk hj => ?_) (fun c hc => ?_)
  · by_cases e : k = i
    · subst e
      show _ = some (Value.int .i64 ((upd s.pl k x k : Nat) : Int))
      rw [upd_same]
      exact World.cell?_setCell_same _ _ _ (h.t2 k hk)
    · show _ = some (Value.int .i64 ((upd s.pl i x k : Nat) : Int))
      rw [upd_other _ _ e, World.cell?_setCell_other _ _ _ _ (fun e' => by have := congrArg Addr.off e'; simp at this; omega)]
      exact h.t2 k hk
  · rw [World.cell?_setCell_other _ _ _ _ (fun e' => (hR.tr k hk).1 (congrArg Addr.block e').symm)]
    exact h.rg k j hk hj
  · rw [World.cell?_setCell_other _ _ _ _ (fun e' => hR.tc (congrArg Addr.block e'))]
    exact h.ce c hc
theorem RP.setRg {R : Rd} (hR : RdOk R) {w : World} {s : Ls} (h : RP R w s) (i j : Nat) (x : Int) (hi : i < R.n) (hj : j < 4) : RP R (w.setCell ⟨R.rb i, j, none⟩ (.int .u64 x)) ⟨s.wo, upd s.rg i (upd (s.rg i) j x), s.pl⟩ := by
  refine h.set hR (.inr (.inr ⟨i, hi, rfl⟩)) (fun k _ e => (hR.tr i hi).1 e.1) (fun k _ e => (hR.tr i hi).1 e.1) (fun k hk => ?_) (fun k m hk hm => ?_) (fun c hc => ?_)
  · rw [World.cell?_setCell_other _ _ _ _ (fun e' => (hR.tr i hi).1 (congrArg Addr.block e'))]
    exact h.t2 k hk
  · show _ = some (Value.int .u64 (upd s.rg i (upd (s.rg i) j x) k m))
    by_cases e : k = i
    · subst e
      rw [upd_same]
      by_cases e2 : m = j
      · subst e2
        rw [upd_same]
        exact World.cell?_setCell_same _ _ _ (h.rg k m hk hm)
      · rw [upd_other _ _ e2, World.cell?_setCell_other _ _ _ _ (fun e' => e2 (congrArg Addr.off e').symm)]
        exact h.rg k m hk hm
    · rw [upd_other _ _ e, World.cell?_setCell_other _ _ _ _ (fun e' => hR.rr i k hi hk (fun e3 => e e3.symm) (congrArg Addr.block e'))]
      exact h.rg k m hk hm
  · rw [World.cell?_setCell_other _ _ _ _ (fun e' => (hR.tr i hi).2 (congrArg Addr.block e'))]
    exact h.ce c hc
theorem RP.setWo {R : Rd} (hR : RdOk R) {w : World} {s : Ls} (h : RP R w s) (c : Nat) (x : Int) (hc : c < R.wd) : RP R (w.setCell ⟨R.cb, c, none⟩ (.int .u64 x)) ⟨upd s.wo c x, s.rg, s.pl⟩ := by
  refine h.set hR (.inr (.inl rfl)) (fun k _ e => hR.tc e.1.symm) (fun k _ e => hR.tc e.1.symm) (fun k hk => ?_) (fun k m hk hm => ?_) (fun d hd => ?_)
  · rw [World.cell?_setCell_other _ _ _ _ (fun e' => hR.tc (congrArg Addr.block e').symm)]
    exact h.t2 k hk
  · rw [World.cell?_setCell_other _ _ _ _ (fun e' => (hR.tr k hk).2 (congrArg Addr.block e').symm)]
    exact h.rg k m hk hm
  · show _ = some (Value.int .u64 (upd s.wo c x d))
    by_cases e : d = c
    · subst e
      rw [upd_same]
      exact World.cell?_setCell_same _ _ _ (h.ce d hd)
    · rw [upd_other _ _ e, World.cell?_setCell_other _ _ _ _ (fun e' => e (congrArg Addr.off e').symm)]
      exact h.ce d hd
/-- What the document's Val stands for. -/
theorem rvalue_any (w : World) (R : Rd) (s : Ls) (h : RP R w s) (i : Nat) (hi : i < R.n) (r x : Int) (hr : r ≤ 3) : Calls Tryz.prog 117 #[.agg #[.int .i64 r, .int .u64 x], .slice (some ⟨R.rb i, 0, none⟩) 4 (4 + R.rk i)] w fun e w' => e = .returned (.int .u64 (valP (s.rg i) r x)) ∧ Keeps (fun _ => False) w w' := by
  by_cases h0 : r < 0
  · have hv : valP (s.rg i) r x = x := by unfold valP; rw [if_pos (.inl h0)]
    rw [hv]
    have hn : ¬ 0 ≤ r := by omega
    go_enter Tryz.func117, Tryz.ntmps117
    go_wp2
    go_ret
    exact ⟨rfl, (Keeps.refl _ _).alloc _⟩
  · obtain ⟨k, rfl⟩ : ∃ k : Nat, r = (k : Int) := ⟨r.toNat, by omega⟩
    have hk : k < 4 := by omega
    have hv : valP (s.rg i) k x = IntKind.u64.wrap (x + s.rg i k) := by unfold valP; rw [if_neg (by omega), IntKind.wrap_u64]; rfl
    rw [hv]
    have HB : Hid (Keeps (fun _ => False) w (w.alloc (.cells #[.int .i64 (k : Int), .int .u64 x] 104))) := (Keeps.refl _ _).alloc _
    have cT : (w.alloc (.cells #[.int .i64 (k : Int), .int .u64 x] 104)).cell? ⟨R.rb i, k, none⟩ = some (.int .u64 (s.rg i k)) := (h.still HB.out).rg i k hi hk
    have k0 : (0 : Int) ≤ (k : Int) := Int.natCast_nonneg _
    have k1 : (k : Int) < 4 := by omega
    have b0 : (w.alloc (.cells #[.int .i64 (k : Int), .int .u64 x] 104)).cell? ⟨w.heap.size, 0, none⟩ = some (.int .i64 (k : Int)) := (cell?_heap (heap_alloc_last _ _ _ rfl) 0).trans rfl
    have b1 : (w.alloc (.cells #[.int .i64 (k : Int), .int .u64 x] 104)).cell? ⟨w.heap.size, 1, none⟩ = some (.int .u64 x) := (cell?_heap (heap_alloc_last _ _ _ rfl) 1).trans rfl
    clear h
    go_enter Tryz.func117, Tryz.ntmps117
    go_wp2_with fail
    generalize w.alloc (.cells #[.int .i64 (k : Int), .int .u64 x] 104) = W at *
    generalize w.heap.size = g at *
    (refine wp_region_held_drew (S := (fun V => V.cell? ⟨g, 0, none⟩ = some (.int .i64 (k : Int)) ∧ V.cell? ⟨g, 1, none⟩ = some (.int .u64 x) ∧ V.cell? ⟨R.rb i, k, none⟩ = some (.int .u64 (s.rg i k)))) (by kernel_rfl) ⟨b0, b1, cT⟩ (fun hHeld => ?_); simp only [List.size_toArray, List.length_cons, List.length_nil, Nat.reduceAdd, Array.replicate_succ, Array.replicate_zero, List.push_toArray, List.append_toArray, List.nil_append, List.cons_append])
    refine rgT 0 (h := ?_)
    refine rgT 1 (h := ?_)
    refine rgT 2 (h := ?_)
    refine rgT 3 (h := ?_)
    refine rgT 4 (h := ?_)
    refine rgT 5 (h := ?_)
    refine rgT 6 (h := ?_)
    refine rgT 7 (h := ?_)
    refine rgT 8 (h := ?_)
    refine wpAnyH_done (by kernel_rfl) ?_ _
    go_wp2
    go_ret
    exact ⟨rfl, HB.out.drew⟩
end Go.Proofs.YtdpebhdjcgiboaaGreat

namespace Go.Proofs.YtdpebhdjcgiboaaGreat
set_option linter.unusedSimpArgs false
open Go.ChangeShapes Go.WideShapes Go.ChangeAt Go.RowKit Go.MuLone Go.RwLone
set_option linter.unusedVariables false
set_option maxRecDepth 100000
set_option maxHeartbeats 3200000
/-- The document's thread at work, its instruction in the box g. -/
structure Rk (w W : World) (R : Rd) (s : Ls) (g : Nat) (x : I8) : Prop where
  p : RP R W s
  bx : ∀ j u, (iV x)[j]? = some u → W.cell? ⟨g, j, none⟩ = some u
  k : Keeps (fRw R) w W
  gl : g < W.heap.size
  ng : ¬ fR R g
theorem Rk.still {w W W' : World} {R : Rd} {s : Ls} {g : Nat} {x : I8} (h : Rk w W R s g x) (k : Keeps (fun _ => False) W W') : Rk w W' R s g x :=
  ⟨h.p.still k, fun j u hu => (k.cell (p := ⟨g, j, none⟩) h.gl (fun e => e)).trans (h.bx j u hu), h.k.trans (k.mono (fun _ e => e.elim)), Nat.lt_of_lt_of_le h.gl k.size, h.ng⟩
theorem Rk.drew {w W : World} {R : Rd} {s : Ls} {g : Nat} {x : I8} (h : Rk w W R s g x) : Rk w W.drew R s g x := h.still (Keeps.refl _ _).drew
theorem Rk.put {w W : World} {R : Rd} {s s' : Ls} {g : Nat} {x : I8} {b j : Nat} {v : Value} (h : Rk w W R s g x) (hb : fRw R b) (p : RP R (W.setCell ⟨b, j, none⟩ v) s') : Rk w (W.setCell ⟨b, j, none⟩ v) R s' g x :=
  ⟨p, fun i u hu => (World.cell?_setCell_other _ _ _ _ (fun e => h.ng (.inl (by have e2 : b = g := congrArg Addr.block e; exact e2 ▸ hb)))).trans (h.bx i u hu), h.k.setCell (p := ⟨b, j, none⟩) hb _, by simpa using h.gl, h.ng⟩
theorem Rk.start {w : World} {R : Rd} {s : Ls} (x : I8) (h : RP R w s) : Rk w (w.alloc (.cells (iV x) 106)) R s w.heap.size x :=
  ⟨h.still ((Keeps.refl _ _).alloc _), fun j u hu => (cell?_heap (heap_alloc_last _ _ _ rfl) j).trans hu, (Keeps.refl _ _).alloc _, by simp, fun e => by have := h.lt _ e; omega⟩
theorem upd_upd {α : Type} (f : Nat → α) (i : Nat) (a b : α) : upd (upd f i a) i b = upd f i b := by
  funext k
  by_cases e : k = i
  · subst e; rw [upd_same, upd_same]
  · rw [upd_other _ _ e, upd_other _ _ e, upd_other _ _ e]
theorem RP.t0' {R : Rd} {w : World} {s : Ls} (h : RP R w s) {i ib m : Nat} (hi : i < R.n) (hia : R.ia i = some ⟨ib, 0, none⟩) (hml : (R.ins i).length = m) : w.cell? ⟨R.tb, i * 3, none⟩ = some (.slice (some ⟨ib, 0, none⟩) m (R.icap i)) := by
  have := h.t0 i hi
  rw [hia, hml] at this
  exact this
theorem RP.t2' {R : Rd} {w : World} {a : Nat → Int} {b : Nat → Nat → Int} {f : Nat → Nat} {i x : Nat} (h : RP R w ⟨a, b, upd f i x⟩) (hi : i < R.n) : w.cell? ⟨R.tb, i * 3 + 2, none⟩ = some (.int .i64 (x : Int)) := by
  have q : w.cell? ⟨R.tb, i * 3 + 2, none⟩ = some (.int .i64 ((upd f i x i : Nat) : Int)) := h.t2 i hi
  rw [upd_same] at q
  exact q
theorem rstep_done (R : Rd) (w : World) (s : Ls) (h : RP R w s) (i : Nat) (hi : i < R.n) (hn4 : R.n ≤ 4) (hp : ¬ s.pl i < (R.ins i).length) (hln : (R.ins i).length ≤ 1000) :
    Calls Tryz.prog 69 #[.pointer (some ⟨R.bk, 0, none⟩), .int .i64 (i : Int)] w fun e w' => e = .returned (.bool true) ∧ Keeps (fun _ => False) w w' := by
  have p1 := h.p1
  have i0 : (0 : Int) ≤ (i : Int) := Int.natCast_nonneg _
  have i1 : (i : Int) < (R.n : Int) := by omega
  have H : Hid (w.cell? ⟨R.tb, i * 3 + 2, none⟩ = some (.int .i64 (s.pl i : Int)) ∧ w.cell? ⟨R.tb, i * 3, none⟩ = some (.slice (R.ia i) (R.ins i).length (R.icap i))) := ⟨h.t2 i hi, h.t0 i hi⟩
  have hge : ((R.ins i).length : Int) ≤ (s.pl i : Int) := by omega
  clear h
  generalize (R.ins i).length = m at *
  generalize s.pl i = pl at *
  go_enter Tryz.func69, Tryz.ntmps69
  go_wp2_with fail
  (refine wp_region_held_drew (S := (fun W => W.cell? ⟨R.tb, i * 3 + 2, none⟩ = some (.int .i64 (pl : Int)) ∧ W.cell? ⟨R.tb, i * 3, none⟩ = some (.slice (R.ia i) m (R.icap i)))) (by kernel_rfl) H.out (fun hHeld => ?_); simp only [List.size_toArray, List.length_cons, List.length_nil, Nat.reduceAdd, Array.replicate_succ, Array.replicate_zero, List.push_toArray, List.append_toArray, List.nil_append, List.cons_append])
  refine rgT 0 (h := ?_)
  refine rgT 1 (h := ?_)
  refine rgT 2 (h := ?_)
  refine rgT 3 (h := ?_)
  refine rgT 4 (h := ?_)
  refine rgT 5 (h := ?_)
  refine rgT 6 (h := ?_)
  refine rgT 7 (h := ?_)
  refine rgT 8 (h := ?_)
  refine rgT 9 (h := ?_)
  refine wpAnyH_done (by kernel_rfl) ?_ _
  go_wp2
  go_ret
  exact ⟨rfl, (Keeps.refl _ _).drew⟩
theorem rstep_1 (R : Rd) (hR : RdOk R) (w : World) (s : Ls) (h : RP R w s) (i : Nat) (hi : i < R.n) (pl m ib : Nat) (c r nr ni orr oi n : Int) (hia : R.ia i = some ⟨ib, 0, none⟩) (hml : (R.ins i).length = m) (h8 : In8 w ib pl 1 c r nr ni orr oi n) (hpl : pl < m) (hm : m ≤ 1000) (hps : s.pl i = pl) (c0 : 0 ≤ c) (c1 : c < (R.wd : Int)) (r0 : 0 ≤ r) (r1 : r < 4) :
    Calls Tryz.prog 69 #[.pointer (some ⟨R.bk, 0, none⟩), .int .i64 (i : Int)] w fun e w' => e = .returned (.bool (decide (m ≤ pl + 1))) ∧ RP R w' ⟨s.wo, upd s.rg i (upd (s.rg i) r.toNat (s.wo c.toNat)), upd s.pl i (pl + 1)⟩ ∧ Keeps (fRw R) w w' := by
  obtain ⟨j, rfl⟩ : ∃ j : Nat, c = (j : Int) := ⟨c.toNat, by omega⟩
  have hj : j < R.wd := by omega
  have ej : ((j : Int)).toNat = j := by omega
  rw [ej]
  have j0 : (0 : Int) ≤ (j : Int) := Int.natCast_nonneg _
  obtain ⟨k, rfl⟩ : ∃ k : Nat, r = (k : Int) := ⟨r.toNat, by omega⟩
  have hk : k < 4 := by omega
  have ek : ((k : Int)).toNat = k := by omega
  rw [ek]
  have hr0 : (0 : Int) ≤ (k : Int) := Int.natCast_nonneg _
  have hr1 : (k : Int) < 4 := by omega
  have p1 := h.p1
  have i0 : (0 : Int) ≤ (i : Int) := Int.natCast_nonneg _
  have i1 : (i : Int) < (R.n : Int) := by omega
  have hp0 : (0 : Int) ≤ (pl : Int) := Int.natCast_nonneg _
  have hp1 : (pl : Int) < (m : Int) := by omega
  have hlt : ¬ (m : Int) ≤ (pl : Int) := by omega
  have ht2 := h.t2 i hi
  rw [hps] at ht2
  have ht0 := h.t0' hi hia hml
  have H : Hid (RP R w s ∧ w.cell? ⟨R.tb, i * 3 + 2, none⟩ = some (.int .i64 (pl : Int)) ∧ w.cell? ⟨R.tb, i * 3, none⟩ = some (.slice (some ⟨ib, 0, none⟩) m (R.icap i))) := ⟨h, ht2, ht0⟩
  have HA : Hid (∀ W, Keeps (fun _ => False) w W → W.cell? ⟨R.tb, i * 3 + 2, none⟩ = some (.int .i64 (pl : Int)) ∧ W.cell? ⟨R.tb, i * 3, none⟩ = some (.slice (some ⟨ib, 0, none⟩) m (R.icap i)) ∧ W.cell? ⟨ib, pl * 8, none⟩ = some (.int .i64 1) ∧ W.cell? ⟨ib, pl * 8 + 1, none⟩ = some (.int .i64 j) ∧ W.cell? ⟨ib, pl * 8 + 2, none⟩ = some (.int .i64 k) ∧ W.cell? ⟨ib, pl * 8 + 3, none⟩ = some (.int .i64 nr) ∧ W.cell? ⟨ib, pl * 8 + 4, none⟩ = some (.int .u64 ni) ∧ W.cell? ⟨ib, pl * 8 + 5, none⟩ = some (.int .i64 orr) ∧ W.cell? ⟨ib, pl * 8 + 6, none⟩ = some (.int .u64 oi) ∧ W.cell? ⟨ib, pl * 8 + 7, none⟩ = some (.int .i64 n)) := fun W k => by
    have q := h8.keeps k (fun e => e)
    exact ⟨((k.cell (p := ⟨R.tb, i * 3 + 2, none⟩) (h.lt _ (.inl (.inl rfl))) (fun e => e))).trans ht2, ((k.cell (p := ⟨R.tb, i * 3, none⟩) (h.lt _ (.inl (.inl rfl))) (fun e => e))).trans ht0, q.c0, q.c1, q.c2, q.c3, q.c4, q.c5, q.c6, q.c7⟩
  have HS : Hid (Rk w (w.alloc (.cells (iV ⟨1, j, k, nr, ni, orr, oi, n⟩) 106)).drew.drew R s w.heap.size ⟨1, j, k, nr, ni, orr, oi, n⟩) := (Rk.start _ h).drew.drew
  clear h ht2 ht0 h8
  go_enter Tryz.func69, Tryz.ntmps69
  go_wp2_with fail
  (refine wp_region_held_drew (S := (fun W => W.cell? ⟨R.tb, i * 3 + 2, none⟩ = some (.int .i64 (pl : Int)) ∧ W.cell? ⟨R.tb, i * 3, none⟩ = some (.slice (some ⟨ib, 0, none⟩) m (R.icap i)))) (by kernel_rfl) ⟨H.out.2.1, H.out.2.2⟩ (fun hHeld => ?_); simp only [List.size_toArray, List.length_cons, List.length_nil, Nat.reduceAdd, Array.replicate_succ, Array.replicate_zero, List.push_toArray, List.append_toArray, List.nil_append, List.cons_append])
  refine rgT 0 (h := ?_)
  refine rgT 1 (h := ?_)
  refine rgT 2 (h := ?_)
  refine rgT 3 (h := ?_)
  refine rgT 4 (h := ?_)
  refine rgT 5 (h := ?_)
  refine rgT 6 (h := ?_)
  refine rgT 7 (h := ?_)
  refine rgT 8 (h := ?_)
  refine rgT 9 (h := ?_)
  refine wpAnyH_done (by kernel_rfl) ?_ _
  go_wp2_with fail
  (refine wp_region_held_drew (S := (fun W => W.cell? ⟨R.tb, i * 3 + 2, none⟩ = some (.int .i64 (pl : Int)) ∧ W.cell? ⟨R.tb, i * 3, none⟩ = some (.slice (some ⟨ib, 0, none⟩) m (R.icap i)) ∧ W.cell? ⟨ib, pl * 8, none⟩ = some (.int .i64 1) ∧ W.cell? ⟨ib, pl * 8 + 1, none⟩ = some (.int .i64 j) ∧ W.cell? ⟨ib, pl * 8 + 2, none⟩ = some (.int .i64 k) ∧ W.cell? ⟨ib, pl * 8 + 3, none⟩ = some (.int .i64 nr) ∧ W.cell? ⟨ib, pl * 8 + 4, none⟩ = some (.int .u64 ni) ∧ W.cell? ⟨ib, pl * 8 + 5, none⟩ = some (.int .i64 orr) ∧ W.cell? ⟨ib, pl * 8 + 6, none⟩ = some (.int .u64 oi) ∧ W.cell? ⟨ib, pl * 8 + 7, none⟩ = some (.int .i64 n))) (by kernel_rfl) (HA.out _ (Keeps.refl _ _).drew.drew) (fun hHeld => ?_); simp only [List.size_toArray, List.length_cons, List.length_nil, Nat.reduceAdd, Array.replicate_succ, Array.replicate_zero, List.push_toArray, List.append_toArray, List.nil_append, List.cons_append])
  refine rgT 0 (h := ?_)
  refine rgT 1 (h := ?_)
  refine rgT 2 (h := ?_)
  refine rgT 3 (h := ?_)
  refine rgT 4 (h := ?_)
  refine rgT 5 (h := ?_)
  refine rgT 6 (h := ?_)
  refine rgT 7 (h := ?_)
  refine rgT 8 (h := ?_)
  refine rgT 9 (h := ?_)
  (refine rgS 10 (h := fun K hK => ?_); go_simp)
  (refine hK.out _ _ (HA.out _ ((Keeps.refl _ _).alloc _).drew.drew) (fun hHeld => ?_); clear hK K; try simp only [Act.put, List.setIfInBounds_toArray, List.set_cons_zero, List.set_cons_succ])
  (refine rgS 11 (h := fun K hK => ?_); go_simp)
  (refine hK.out _ _ (HA.out _ ((Keeps.refl _ _).alloc _).drew.drew) (fun hHeld => ?_); clear hK K; try simp only [Act.put, List.setIfInBounds_toArray, List.set_cons_zero, List.set_cons_succ])
  refine wpAnyH_done (by kernel_rfl) ?_ _
  clear H HA p1 hlt hp0 hp1
  change Hid (Rk w (w.alloc (.cells #[.int .i64 1, .int .i64 j, .int .i64 k, .int .i64 nr, .int .u64 ni, .int .i64 orr, .int .u64 oi, .int .i64 n] 106)).drew.drew R s w.heap.size ⟨1, j, k, nr, ni, orr, oi, n⟩) at HS
  generalize (w.alloc (.cells #[.int .i64 1, .int .i64 j, .int .i64 k, .int .i64 nr, .int .u64 ni, .int .i64 orr, .int .u64 oi, .int .i64 n] 106)).drew.drew = W0 at *
  generalize w.heap.size = g at *
  have t2 := HS.out.p.t2 i hi
  rw [hps] at t2
  have f2 := HS.out.p.fz R.tb (i * 3 + 2) (.inl rfl)
  have b0 := HS.out.bx 0 _ rfl
  have hw1 : (pl : Int) + 1 = ((pl + 1 : Nat) : Int) := by omega
  have H1 : Hid (Rk w (W0.setCell ⟨R.tb, i * 3 + 2, none⟩ (.int .i64 ((pl : Int) + 1))) R ⟨s.wo, s.rg, upd s.pl i (pl + 1)⟩ g ⟨1, j, k, nr, ni, orr, oi, n⟩) := by
    rw [hw1]
    exact HS.out.put (.inl rfl) (HS.out.p.setPl hR i (pl + 1) hi)
  clear hw1
  have nb : (⟨R.tb, i * 3 + 2, none⟩ : Addr) ≠ ⟨g, 0, none⟩ := fun e => HS.out.ng (.inl (.inl (congrArg Addr.block e).symm))
  have b1 := H1.out.bx 0 _ rfl
  go_wp2_with fail
  clear t2 f2 b0 nb b1 HS
  generalize W0.setCell ⟨R.tb, i * 3 + 2, none⟩ (.int .i64 ((pl : Int) + 1)) = W1 at *
  (refine wp_region_held_drew (S := (fun W => W.cell? ⟨R.tb, i * 3 + 1, none⟩ = some (.slice (some ⟨R.rb i, 0, none⟩) 4 (4 + R.rk i)) ∧ W.cell? ⟨R.bk, 0, none⟩ = some (.slice (some ⟨R.cb, 0, none⟩) R.wd R.cc) ∧ W.cell? ⟨g, 1, none⟩ = some (.int .i64 j) ∧ W.cell? ⟨g, 2, none⟩ = some (.int .i64 k) ∧ W.cell? ⟨R.cb, j, none⟩ = some (.int .u64 (s.wo j)))) (by kernel_rfl) ⟨H1.out.p.t1 i hi, H1.out.p.p0, H1.out.bx 1 _ rfl, H1.out.bx 2 _ rfl, H1.out.p.ce j hj⟩ (fun hHeld => ?_); simp only [List.size_toArray, List.length_cons, List.length_nil, Nat.reduceAdd, Array.replicate_succ, Array.replicate_zero, List.push_toArray, List.append_toArray, List.nil_append, List.cons_append])
  refine rgT 0 (h := ?_)
  refine rgT 1 (h := ?_)
  refine rgT 2 (h := ?_)
  refine rgT 3 (h := ?_)
  refine rgT 4 (h := ?_)
  refine rgT 5 (h := ?_)
  refine rgT 6 (h := ?_)
  refine rgT 7 (h := ?_)
  refine rgT 8 (h := ?_)
  refine rgT 9 (h := ?_)
  refine rgT 10 (h := ?_)
  refine rgT 11 (h := ?_)
  refine rgT 12 (h := ?_)
  refine rgT 13 (h := ?_)
  refine rgT 14 (h := ?_)
  have c4 := H1.out.drew.p.rg i k hi hk
  have f4 := H1.out.drew.p.fz (R.rb i) k (.inr (.inr ⟨i, hi, rfl⟩))
  (refine rgS 15 (h := fun K hK => ?_); go_simp)
  have H2 : Hid (Rk w (W1.setCell ⟨R.rb i, k, none⟩ (.int .u64 (s.wo j))).drew R ⟨s.wo, upd s.rg i (upd (s.rg i) k (s.wo j)), upd s.pl i (pl + 1)⟩ g ⟨1, j, k, nr, ni, orr, oi, n⟩) := (H1.out.put (.inr (.inr ⟨i, hi, rfl⟩)) (H1.out.p.setRg hR i k (s.wo j) hi hk)).drew
  clear H1 c4 f4
  (refine hK.out _ _ ⟨H2.out.p.t1 i hi, H2.out.p.p0, H2.out.bx 1 _ rfl, H2.out.bx 2 _ rfl, H2.out.p.ce j hj⟩ (fun hHeld => ?_); clear hK K; try simp only [Act.put, List.setIfInBounds_toArray, List.set_cons_zero, List.set_cons_succ])
  refine wpAnyH_done (by kernel_rfl) ?_ _
  generalize (W1.setCell ⟨R.rb i, k, none⟩ (.int .u64 (s.wo j))).drew = W9 at *
  go_wp2_with fail
  (refine wp_region_held_drew (S := (fun W => W.cell? ⟨R.tb, i * 3 + 2, none⟩ = some (.int .i64 ((pl + 1 : Nat) : Int)) ∧ W.cell? ⟨R.tb, i * 3, none⟩ = some (.slice (some ⟨ib, 0, none⟩) m (R.icap i)))) (by kernel_rfl) ⟨H2.out.p.t2' hi, H2.out.p.t0' hi hia hml⟩ (fun hHeld => ?_); simp only [List.size_toArray, List.length_cons, List.length_nil, Nat.reduceAdd, Array.replicate_succ, Array.replicate_zero, List.push_toArray, List.append_toArray, List.nil_append, List.cons_append])
  refine rgT 0 (h := ?_)
  refine rgT 1 (h := ?_)
  refine rgT 2 (h := ?_)
  refine rgT 3 (h := ?_)
  refine rgT 4 (h := ?_)
  refine rgT 5 (h := ?_)
  refine rgT 6 (h := ?_)
  refine rgT 7 (h := ?_)
  refine rgT 8 (h := ?_)
  refine rgT 9 (h := ?_)
  refine rgT 10 (h := ?_)
  refine wpAnyH_done (by kernel_rfl) ?_ _
  go_wp2
  go_ret
  have e1 : decide ((m : Int) ≤ (((pl + 1 : Nat)) : Int)) = decide (m ≤ pl + 1) := by congr 1; exact propext ⟨fun h => by omega, fun h => by omega⟩
  exact ⟨by simpa using e1, H2.out.drew.p, H2.out.drew.k⟩
theorem rstep_2 (R : Rd) (hR : RdOk R) (w : World) (s : Ls) (h : RP R w s) (i : Nat) (hi : i < R.n) (pl m ib : Nat) (c r nr ni orr oi n : Int) (hia : R.ia i = some ⟨ib, 0, none⟩) (hml : (R.ins i).length = m) (h8 : In8 w ib pl 2 c r nr ni orr oi n) (hpl : pl < m) (hm : m ≤ 1000) (hps : s.pl i = pl) (c0 : 0 ≤ c) (c1 : c < (R.wd : Int)) (hv : nr ≤ 3) :
    Calls Tryz.prog 69 #[.pointer (some ⟨R.bk, 0, none⟩), .int .i64 (i : Int)] w fun e w' => e = .returned (.bool (decide (m ≤ pl + 1))) ∧ RP R w' ⟨upd s.wo c.toNat (valP (s.rg i) nr ni), s.rg, upd s.pl i (pl + 1)⟩ ∧ Keeps (fRw R) w w' := by
  obtain ⟨j, rfl⟩ : ∃ j : Nat, c = (j : Int) := ⟨c.toNat, by omega⟩
  have hj : j < R.wd := by omega
  have ej : ((j : Int)).toNat = j := by omega
  rw [ej]
  have j0 : (0 : Int) ≤ (j : Int) := Int.natCast_nonneg _
  obtain ⟨fr, hfr⟩ : ∃ x, x = valP (s.rg i) nr ni := ⟨_, rfl⟩
  rw [← hfr]
  have Hfr : Hid (fr = valP (s.rg i) nr ni) := hfr
  clear hfr
  have p1 := h.p1
  have i0 : (0 : Int) ≤ (i : Int) := Int.natCast_nonneg _
  have i1 : (i : Int) < (R.n : Int) := by omega
  have hp0 : (0 : Int) ≤ (pl : Int) := Int.natCast_nonneg _
  have hp1 : (pl : Int) < (m : Int) := by omega
  have hlt : ¬ (m : Int) ≤ (pl : Int) := by omega
  have ht2 := h.t2 i hi
  rw [hps] at ht2
  have ht0 := h.t0' hi hia hml
  have H : Hid (RP R w s ∧ w.cell? ⟨R.tb, i * 3 + 2, none⟩ = some (.int .i64 (pl : Int)) ∧ w.cell? ⟨R.tb, i * 3, none⟩ = some (.slice (some ⟨ib, 0, none⟩) m (R.icap i))) := ⟨h, ht2, ht0⟩
  have HA : Hid (∀ W, Keeps (fun _ => False) w W → W.cell? ⟨R.tb, i * 3 + 2, none⟩ = some (.int .i64 (pl : Int)) ∧ W.cell? ⟨R.tb, i * 3, none⟩ = some (.slice (some ⟨ib, 0, none⟩) m (R.icap i)) ∧ W.cell? ⟨ib, pl * 8, none⟩ = some (.int .i64 2) ∧ W.cell? ⟨ib, pl * 8 + 1, none⟩ = some (.int .i64 j) ∧ W.cell? ⟨ib, pl * 8 + 2, none⟩ = some (.int .i64 r) ∧ W.cell? ⟨ib, pl * 8 + 3, none⟩ = some (.int .i64 nr) ∧ W.cell? ⟨ib, pl * 8 + 4, none⟩ = some (.int .u64 ni) ∧ W.cell? ⟨ib, pl * 8 + 5, none⟩ = some (.int .i64 orr) ∧ W.cell? ⟨ib, pl * 8 + 6, none⟩ = some (.int .u64 oi) ∧ W.cell? ⟨ib, pl * 8 + 7, none⟩ = some (.int .i64 n)) := fun W k => by
    have q := h8.keeps k (fun e => e)
    exact ⟨((k.cell (p := ⟨R.tb, i * 3 + 2, none⟩) (h.lt _ (.inl (.inl rfl))) (fun e => e))).trans ht2, ((k.cell (p := ⟨R.tb, i * 3, none⟩) (h.lt _ (.inl (.inl rfl))) (fun e => e))).trans ht0, q.c0, q.c1, q.c2, q.c3, q.c4, q.c5, q.c6, q.c7⟩
  have HS : Hid (Rk w (w.alloc (.cells (iV ⟨2, j, r, nr, ni, orr, oi, n⟩) 106)).drew.drew R s w.heap.size ⟨2, j, r, nr, ni, orr, oi, n⟩) := (Rk.start _ h).drew.drew
  clear h ht2 ht0 h8
  go_enter Tryz.func69, Tryz.ntmps69
  go_wp2_with fail
  (refine wp_region_held_drew (S := (fun W => W.cell? ⟨R.tb, i * 3 + 2, none⟩ = some (.int .i64 (pl : Int)) ∧ W.cell? ⟨R.tb, i * 3, none⟩ = some (.slice (some ⟨ib, 0, none⟩) m (R.icap i)))) (by kernel_rfl) ⟨H.out.2.1, H.out.2.2⟩ (fun hHeld => ?_); simp only [List.size_toArray, List.length_cons, List.length_nil, Nat.reduceAdd, Array.replicate_succ, Array.replicate_zero, List.push_toArray, List.append_toArray, List.nil_append, List.cons_append])
  refine rgT 0 (h := ?_)
  refine rgT 1 (h := ?_)
  refine rgT 2 (h := ?_)
  refine rgT 3 (h := ?_)
  refine rgT 4 (h := ?_)
  refine rgT 5 (h := ?_)
  refine rgT 6 (h := ?_)
  refine rgT 7 (h := ?_)
  refine rgT 8 (h := ?_)
  refine rgT 9 (h := ?_)
  refine wpAnyH_done (by kernel_rfl) ?_ _
  go_wp2_with fail
  (refine wp_region_held_drew (S := (fun W => W.cell? ⟨R.tb, i * 3 + 2, none⟩ = some (.int .i64 (pl : Int)) ∧ W.cell? ⟨R.tb, i * 3, none⟩ = some (.slice (some ⟨ib, 0, none⟩) m (R.icap i)) ∧ W.cell? ⟨ib, pl * 8, none⟩ = some (.int .i64 2) ∧ W.cell? ⟨ib, pl * 8 + 1, none⟩ = some (.int .i64 j) ∧ W.cell? ⟨ib, pl * 8 + 2, none⟩ = some (.int .i64 r) ∧ W.cell? ⟨ib, pl * 8 + 3, none⟩ = some (.int .i64 nr) ∧ W.cell? ⟨ib, pl * 8 + 4, none⟩ = some (.int .u64 ni) ∧ W.cell? ⟨ib, pl * 8 + 5, none⟩ = some (.int .i64 orr) ∧ W.cell? ⟨ib, pl * 8 + 6, none⟩ = some (.int .u64 oi) ∧ W.cell? ⟨ib, pl * 8 + 7, none⟩ = some (.int .i64 n))) (by kernel_rfl) (HA.out _ (Keeps.refl _ _).drew.drew) (fun hHeld => ?_); simp only [List.size_toArray, List.length_cons, List.length_nil, Nat.reduceAdd, Array.replicate_succ, Array.replicate_zero, List.push_toArray, List.append_toArray, List.nil_append, List.cons_append])
  refine rgT 0 (h := ?_)
  refine rgT 1 (h := ?_)
  refine rgT 2 (h := ?_)
  refine rgT 3 (h := ?_)
  refine rgT 4 (h := ?_)
  refine rgT 5 (h := ?_)
  refine rgT 6 (h := ?_)
  refine rgT 7 (h := ?_)
  refine rgT 8 (h := ?_)
  refine rgT 9 (h := ?_)
  (refine rgS 10 (h := fun K hK => ?_); go_simp)
  (refine hK.out _ _ (HA.out _ ((Keeps.refl _ _).alloc _).drew.drew) (fun hHeld => ?_); clear hK K; try simp only [Act.put, List.setIfInBounds_toArray, List.set_cons_zero, List.set_cons_succ])
  (refine rgS 11 (h := fun K hK => ?_); go_simp)
  (refine hK.out _ _ (HA.out _ ((Keeps.refl _ _).alloc _).drew.drew) (fun hHeld => ?_); clear hK K; try simp only [Act.put, List.setIfInBounds_toArray, List.set_cons_zero, List.set_cons_succ])
  refine wpAnyH_done (by kernel_rfl) ?_ _
  clear H HA p1 hlt hp0 hp1
  change Hid (Rk w (w.alloc (.cells #[.int .i64 2, .int .i64 j, .int .i64 r, .int .i64 nr, .int .u64 ni, .int .i64 orr, .int .u64 oi, .int .i64 n] 106)).drew.drew R s w.heap.size ⟨2, j, r, nr, ni, orr, oi, n⟩) at HS
  generalize (w.alloc (.cells #[.int .i64 2, .int .i64 j, .int .i64 r, .int .i64 nr, .int .u64 ni, .int .i64 orr, .int .u64 oi, .int .i64 n] 106)).drew.drew = W0 at *
  generalize w.heap.size = g at *
  have t2 := HS.out.p.t2 i hi
  rw [hps] at t2
  have f2 := HS.out.p.fz R.tb (i * 3 + 2) (.inl rfl)
  have b0 := HS.out.bx 0 _ rfl
  have hw1 : (pl : Int) + 1 = ((pl + 1 : Nat) : Int) := by omega
  have H1 : Hid (Rk w (W0.setCell ⟨R.tb, i * 3 + 2, none⟩ (.int .i64 ((pl : Int) + 1))) R ⟨s.wo, s.rg, upd s.pl i (pl + 1)⟩ g ⟨2, j, r, nr, ni, orr, oi, n⟩) := by
    rw [hw1]
    exact HS.out.put (.inl rfl) (HS.out.p.setPl hR i (pl + 1) hi)
  clear hw1
  have nb : (⟨R.tb, i * 3 + 2, none⟩ : Addr) ≠ ⟨g, 0, none⟩ := fun e => HS.out.ng (.inl (.inl (congrArg Addr.block e).symm))
  have b1 := H1.out.bx 0 _ rfl
  go_wp2_with fail
  clear t2 f2 b0 nb b1 HS
  generalize W0.setCell ⟨R.tb, i * 3 + 2, none⟩ (.int .i64 ((pl : Int) + 1)) = W1 at *
  (refine wp_region_held_drew (S := (fun W => W.cell? ⟨g, 3, none⟩ = some (.int .i64 nr) ∧ W.cell? ⟨g, 4, none⟩ = some (.int .u64 ni) ∧ W.cell? ⟨R.tb, i * 3 + 1, none⟩ = some (.slice (some ⟨R.rb i, 0, none⟩) 4 (4 + R.rk i)))) (by kernel_rfl) ⟨H1.out.bx 3 _ rfl, H1.out.bx 4 _ rfl, H1.out.p.t1 i hi⟩ (fun hHeld => ?_); simp only [List.size_toArray, List.length_cons, List.length_nil, Nat.reduceAdd, Array.replicate_succ, Array.replicate_zero, List.push_toArray, List.append_toArray, List.nil_append, List.cons_append])
  refine rgT 0 (h := ?_)
  refine rgT 1 (h := ?_)
  refine rgT 2 (h := ?_)
  refine rgT 3 (h := ?_)
  refine rgT 4 (h := ?_)
  refine rgT 5 (h := ?_)
  (refine rgS 6 (h := fun K hK => ?_); go_simp)
  refine (rvalue_any W1.drew R ⟨s.wo, s.rg, upd s.pl i (pl + 1)⟩ H1.out.drew.p i hi nr ni hv).mono ?_
  rintro e W2 ⟨he, k2⟩
  have he' : e = .returned (.int .u64 fr) := by rw [Hfr.out]; exact he
  subst he'
  have H2 : Hid (Rk w W2 R ⟨s.wo, s.rg, upd s.pl i (pl + 1)⟩ g ⟨2, j, r, nr, ni, orr, oi, n⟩) := H1.out.drew.still k2
  clear H1 k2 he
  (refine hK.out _ _ ⟨H2.out.bx 3 _ rfl, H2.out.bx 4 _ rfl, H2.out.p.t1 i hi⟩ (fun hHeld => ?_); clear hK K; try simp only [Act.put, List.setIfInBounds_toArray, List.set_cons_zero, List.set_cons_succ])
  refine rgT 7 (h := ?_)
  refine wpAnyH_done (by kernel_rfl) ?_ _
  have q0 := H2.out.bx 0 _ rfl
  go_wp2_with fail
  clear q0
  (refine wp_region_held_drew (S := (fun W => W.cell? ⟨R.bk, 0, none⟩ = some (.slice (some ⟨R.cb, 0, none⟩) R.wd R.cc) ∧ W.cell? ⟨g, 1, none⟩ = some (.int .i64 j))) (by kernel_rfl) ⟨H2.out.p.p0, H2.out.bx 1 _ rfl⟩ (fun hHeld => ?_); simp only [List.size_toArray, List.length_cons, List.length_nil, Nat.reduceAdd, Array.replicate_succ, Array.replicate_zero, List.push_toArray, List.append_toArray, List.nil_append, List.cons_append])
  refine rgT 0 (h := ?_)
  refine rgT 1 (h := ?_)
  refine rgT 2 (h := ?_)
  refine rgT 3 (h := ?_)
  refine rgT 4 (h := ?_)
  refine rgT 5 (h := ?_)
  refine rgT 6 (h := ?_)
  refine rgT 7 (h := ?_)
  have c4 := H2.out.drew.p.ce j hj
  have f4 := H2.out.drew.p.fz R.cb j (.inr (.inl rfl))
  (refine rgS 8 (h := fun K hK => ?_); go_simp)
  have H3 : Hid (Rk w (W2.setCell ⟨R.cb, j, none⟩ (.int .u64 fr)).drew R ⟨upd s.wo j fr, s.rg, upd s.pl i (pl + 1)⟩ g ⟨2, j, r, nr, ni, orr, oi, n⟩) := (H2.out.put (.inr (.inl rfl)) (H2.out.p.setWo hR j fr hj)).drew
  clear H2 c4 f4
  (refine hK.out _ _ ⟨H3.out.p.p0, H3.out.bx 1 _ rfl⟩ (fun hHeld => ?_); clear hK K; try simp only [Act.put, List.setIfInBounds_toArray, List.set_cons_zero, List.set_cons_succ])
  refine wpAnyH_done (by kernel_rfl) ?_ _
  generalize (W2.setCell ⟨R.cb, j, none⟩ (.int .u64 fr)).drew = W3 at *
  go_wp2_with fail
  (refine wp_region_held_drew (S := (fun W => W.cell? ⟨R.tb, i * 3 + 2, none⟩ = some (.int .i64 ((pl + 1 : Nat) : Int)) ∧ W.cell? ⟨R.tb, i * 3, none⟩ = some (.slice (some ⟨ib, 0, none⟩) m (R.icap i)))) (by kernel_rfl) ⟨H3.out.p.t2' hi, H3.out.p.t0' hi hia hml⟩ (fun hHeld => ?_); simp only [List.size_toArray, List.length_cons, List.length_nil, Nat.reduceAdd, Array.replicate_succ, Array.replicate_zero, List.push_toArray, List.append_toArray, List.nil_append, List.cons_append])
  refine rgT 0 (h := ?_)
  refine rgT 1 (h := ?_)
  refine rgT 2 (h := ?_)
  refine rgT 3 (h := ?_)
  refine rgT 4 (h := ?_)
  refine rgT 5 (h := ?_)
  refine rgT 6 (h := ?_)
  refine rgT 7 (h := ?_)
  refine rgT 8 (h := ?_)
  refine rgT 9 (h := ?_)
  refine rgT 10 (h := ?_)
  refine wpAnyH_done (by kernel_rfl) ?_ _
  go_wp2
  go_ret
  have e1 : decide ((m : Int) ≤ (((pl + 1 : Nat)) : Int)) = decide (m ≤ pl + 1) := by congr 1; exact propext ⟨fun h => by omega, fun h => by omega⟩
  exact ⟨by simpa using e1, H3.out.drew.p, H3.out.drew.k⟩
end Go.Proofs.YtdpebhdjcgiboaaGreat

namespace Go.Proofs.YtdpebhdjcgiboaaGreat
set_option linter.unusedSimpArgs false
open Go.ChangeShapes Go.WideShapes Go.ChangeAt Go.RowKit Go.MuLone Go.RwLone
set_option linter.unusedVariables false
set_option maxRecDepth 100000
set_option maxHeartbeats 3200000
theorem rstep_3h (R : Rd) (hR : RdOk R) (w : World) (s : Ls) (h : RP R w s) (i : Nat) (hi : i < R.n) (pl m ib : Nat) (c r nr ni orr oi n : Int) (hia : R.ia i = some ⟨ib, 0, none⟩) (hml : (R.ins i).length = m) (h8 : In8 w ib pl 3 c r nr ni orr oi n) (hpl : pl < m) (hm : m ≤ 1000) (hps : s.pl i = pl) (c0 : 0 ≤ c) (c1 : c < (R.wd : Int)) (r0 : 0 ≤ r) (r1 : r < 4) (hv : nr ≤ 3) (ho : orr ≤ 3) (hq : s.wo c.toNat = valP (s.rg i) orr oi) :
    Calls Tryz.prog 69 #[.pointer (some ⟨R.bk, 0, none⟩), .int .i64 (i : Int)] w fun e w' => e = .returned (.bool (decide (m ≤ pl + 1))) ∧ RP R w' ⟨upd s.wo c.toNat (valP (s.rg i) nr ni), upd s.rg i (upd (s.rg i) r.toNat 1), upd s.pl i (pl + 1)⟩ ∧ Keeps (fRw R) w w' := by
  obtain ⟨j, rfl⟩ : ∃ j : Nat, c = (j : Int) := ⟨c.toNat, by omega⟩
  have hj : j < R.wd := by omega
  have ej : ((j : Int)).toNat = j := by omega
  rw [ej] at hq ⊢
  have j0 : (0 : Int) ≤ (j : Int) := Int.natCast_nonneg _
  obtain ⟨k, rfl⟩ : ∃ k : Nat, r = (k : Int) := ⟨r.toNat, by omega⟩
  have hk : k < 4 := by omega
  have ek : ((k : Int)).toNat = k := by omega
  rw [ek]
  have hr0 : (0 : Int) ≤ (k : Int) := Int.natCast_nonneg _
  have hr1 : (k : Int) < 4 := by omega
  obtain ⟨fr, hfr⟩ : ∃ x, x = valP (s.rg i) nr ni := ⟨_, rfl⟩
  rw [← hfr]
  have Hfr : Hid (fr = valP (s.rg i) nr ni) := hfr
  clear hfr
  obtain ⟨ol, hol⟩ : ∃ x, x = valP (s.rg i) orr oi := ⟨_, rfl⟩
  rw [← hol] at hq
  have Hol : Hid (ol = valP (s.rg i) orr oi) := hol
  clear hol
  have p1 := h.p1
  have i0 : (0 : Int) ≤ (i : Int) := Int.natCast_nonneg _
  have i1 : (i : Int) < (R.n : Int) := by omega
  have hp0 : (0 : Int) ≤ (pl : Int) := Int.natCast_nonneg _
  have hp1 : (pl : Int) < (m : Int) := by omega
  have hlt : ¬ (m : Int) ≤ (pl : Int) := by omega
  have ht2 := h.t2 i hi
  rw [hps] at ht2
  have ht0 := h.t0' hi hia hml
  have H : Hid (RP R w s ∧ w.cell? ⟨R.tb, i * 3 + 2, none⟩ = some (.int .i64 (pl : Int)) ∧ w.cell? ⟨R.tb, i * 3, none⟩ = some (.slice (some ⟨ib, 0, none⟩) m (R.icap i))) := ⟨h, ht2, ht0⟩
  have HA : Hid (∀ W, Keeps (fun _ => False) w W → W.cell? ⟨R.tb, i * 3 + 2, none⟩ = some (.int .i64 (pl : Int)) ∧ W.cell? ⟨R.tb, i * 3, none⟩ = some (.slice (some ⟨ib, 0, none⟩) m (R.icap i)) ∧ W.cell? ⟨ib, pl * 8, none⟩ = some (.int .i64 3) ∧ W.cell? ⟨ib, pl * 8 + 1, none⟩ = some (.int .i64 j) ∧ W.cell? ⟨ib, pl * 8 + 2, none⟩ = some (.int .i64 k) ∧ W.cell? ⟨ib, pl * 8 + 3, none⟩ = some (.int .i64 nr) ∧ W.cell? ⟨ib, pl * 8 + 4, none⟩ = some (.int .u64 ni) ∧ W.cell? ⟨ib, pl * 8 + 5, none⟩ = some (.int .i64 orr) ∧ W.cell? ⟨ib, pl * 8 + 6, none⟩ = some (.int .u64 oi) ∧ W.cell? ⟨ib, pl * 8 + 7, none⟩ = some (.int .i64 n)) := fun W k => by
    have q := h8.keeps k (fun e => e)
    exact ⟨((k.cell (p := ⟨R.tb, i * 3 + 2, none⟩) (h.lt _ (.inl (.inl rfl))) (fun e => e))).trans ht2, ((k.cell (p := ⟨R.tb, i * 3, none⟩) (h.lt _ (.inl (.inl rfl))) (fun e => e))).trans ht0, q.c0, q.c1, q.c2, q.c3, q.c4, q.c5, q.c6, q.c7⟩
  have HS : Hid (Rk w (w.alloc (.cells (iV ⟨3, j, k, nr, ni, orr, oi, n⟩) 106)).drew.drew R s w.heap.size ⟨3, j, k, nr, ni, orr, oi, n⟩) := (Rk.start _ h).drew.drew
  clear h ht2 ht0 h8
  go_enter Tryz.func69, Tryz.ntmps69
  go_wp2_with fail
  (refine wp_region_held_drew (S := (fun W => W.cell? ⟨R.tb, i * 3 + 2, none⟩ = some (.int .i64 (pl : Int)) ∧ W.cell? ⟨R.tb, i * 3, none⟩ = some (.slice (some ⟨ib, 0, none⟩) m (R.icap i)))) (by kernel_rfl) ⟨H.out.2.1, H.out.2.2⟩ (fun hHeld => ?_); simp only [List.size_toArray, List.length_cons, List.length_nil, Nat.reduceAdd, Array.replicate_succ, Array.replicate_zero, List.push_toArray, List.append_toArray, List.nil_append, List.cons_append])
  refine rgT 0 (h := ?_)
  refine rgT 1 (h := ?_)
  refine rgT 2 (h := ?_)
  refine rgT 3 (h := ?_)
  refine rgT 4 (h := ?_)
  refine rgT 5 (h := ?_)
  refine rgT 6 (h := ?_)
  refine rgT 7 (h := ?_)
  refine rgT 8 (h := ?_)
  refine rgT 9 (h := ?_)
  refine wpAnyH_done (by kernel_rfl) ?_ _
  go_wp2_with fail
  (refine wp_region_held_drew (S := (fun W => W.cell? ⟨R.tb, i * 3 + 2, none⟩ = some (.int .i64 (pl : Int)) ∧ W.cell? ⟨R.tb, i * 3, none⟩ = some (.slice (some ⟨ib, 0, none⟩) m (R.icap i)) ∧ W.cell? ⟨ib, pl * 8, none⟩ = some (.int .i64 3) ∧ W.cell? ⟨ib, pl * 8 + 1, none⟩ = some (.int .i64 j) ∧ W.cell? ⟨ib, pl * 8 + 2, none⟩ = some (.int .i64 k) ∧ W.cell? ⟨ib, pl * 8 + 3, none⟩ = some (.int .i64 nr) ∧ W.cell? ⟨ib, pl * 8 + 4, none⟩ = some (.int .u64 ni) ∧ W.cell? ⟨ib, pl * 8 + 5, none⟩ = some (.int .i64 orr) ∧ W.cell? ⟨ib, pl * 8 + 6, none⟩ = some (.int .u64 oi) ∧ W.cell? ⟨ib, pl * 8 + 7, none⟩ = some (.int .i64 n))) (by kernel_rfl) (HA.out _ (Keeps.refl _ _).drew.drew) (fun hHeld => ?_); simp only [List.size_toArray, List.length_cons, List.length_nil, Nat.reduceAdd, Array.replicate_succ, Array.replicate_zero, List.push_toArray, List.append_toArray, List.nil_append, List.cons_append])
  refine rgT 0 (h := ?_)
  refine rgT 1 (h := ?_)
  refine rgT 2 (h := ?_)
  refine rgT 3 (h := ?_)
  refine rgT 4 (h := ?_)
  refine rgT 5 (h := ?_)
  refine rgT 6 (h := ?_)
  refine rgT 7 (h := ?_)
  refine rgT 8 (h := ?_)
  refine rgT 9 (h := ?_)
  (refine rgS 10 (h := fun K hK => ?_); go_simp)
  (refine hK.out _ _ (HA.out _ ((Keeps.refl _ _).alloc _).drew.drew) (fun hHeld => ?_); clear hK K; try simp only [Act.put, List.setIfInBounds_toArray, List.set_cons_zero, List.set_cons_succ])
  (refine rgS 11 (h := fun K hK => ?_); go_simp)
  (refine hK.out _ _ (HA.out _ ((Keeps.refl _ _).alloc _).drew.drew) (fun hHeld => ?_); clear hK K; try simp only [Act.put, List.setIfInBounds_toArray, List.set_cons_zero, List.set_cons_succ])
  refine wpAnyH_done (by kernel_rfl) ?_ _
  clear H HA p1 hlt hp0 hp1
  change Hid (Rk w (w.alloc (.cells #[.int .i64 3, .int .i64 j, .int .i64 k, .int .i64 nr, .int .u64 ni, .int .i64 orr, .int .u64 oi, .int .i64 n] 106)).drew.drew R s w.heap.size ⟨3, j, k, nr, ni, orr, oi, n⟩) at HS
  generalize (w.alloc (.cells #[.int .i64 3, .int .i64 j, .int .i64 k, .int .i64 nr, .int .u64 ni, .int .i64 orr, .int .u64 oi, .int .i64 n] 106)).drew.drew = W0 at *
  generalize w.heap.size = g at *
  have t2 := HS.out.p.t2 i hi
  rw [hps] at t2
  have f2 := HS.out.p.fz R.tb (i * 3 + 2) (.inl rfl)
  have b0 := HS.out.bx 0 _ rfl
  have hw1 : (pl : Int) + 1 = ((pl + 1 : Nat) : Int) := by omega
  have H1 : Hid (Rk w (W0.setCell ⟨R.tb, i * 3 + 2, none⟩ (.int .i64 ((pl : Int) + 1))) R ⟨s.wo, s.rg, upd s.pl i (pl + 1)⟩ g ⟨3, j, k, nr, ni, orr, oi, n⟩) := by
    rw [hw1]
    exact HS.out.put (.inl rfl) (HS.out.p.setPl hR i (pl + 1) hi)
  clear hw1
  have nb : (⟨R.tb, i * 3 + 2, none⟩ : Addr) ≠ ⟨g, 0, none⟩ := fun e => HS.out.ng (.inl (.inl (congrArg Addr.block e).symm))
  have b1 := H1.out.bx 0 _ rfl
  go_wp2_with fail
  clear t2 f2 b0 nb b1 HS
  generalize W0.setCell ⟨R.tb, i * 3 + 2, none⟩ (.int .i64 ((pl : Int) + 1)) = W1 at *
  (refine wp_region_held_drew (S := (fun W => W.cell? ⟨g, 3, none⟩ = some (.int .i64 nr) ∧ W.cell? ⟨g, 4, none⟩ = some (.int .u64 ni) ∧ W.cell? ⟨R.tb, i * 3 + 1, none⟩ = some (.slice (some ⟨R.rb i, 0, none⟩) 4 (4 + R.rk i)))) (by kernel_rfl) ⟨H1.out.bx 3 _ rfl, H1.out.bx 4 _ rfl, H1.out.p.t1 i hi⟩ (fun hHeld => ?_); simp only [List.size_toArray, List.length_cons, List.length_nil, Nat.reduceAdd, Array.replicate_succ, Array.replicate_zero, List.push_toArray, List.append_toArray, List.nil_append, List.cons_append])
  refine rgT 0 (h := ?_)
  refine rgT 1 (h := ?_)
  refine rgT 2 (h := ?_)
  refine rgT 3 (h := ?_)
  refine rgT 4 (h := ?_)
  refine rgT 5 (h := ?_)
  (refine rgS 6 (h := fun K hK => ?_); go_simp)
  refine (rvalue_any W1.drew R ⟨s.wo, s.rg, upd s.pl i (pl + 1)⟩ H1.out.drew.p i hi nr ni hv).mono ?_
  rintro e W2 ⟨he, k2⟩
  have he' : e = .returned (.int .u64 fr) := by rw [Hfr.out]; exact he
  subst he'
  have H2 : Hid (Rk w W2 R ⟨s.wo, s.rg, upd s.pl i (pl + 1)⟩ g ⟨3, j, k, nr, ni, orr, oi, n⟩) := H1.out.drew.still k2
  clear H1 k2 he
  (refine hK.out _ _ ⟨H2.out.bx 3 _ rfl, H2.out.bx 4 _ rfl, H2.out.p.t1 i hi⟩ (fun hHeld => ?_); clear hK K; try simp only [Act.put, List.setIfInBounds_toArray, List.set_cons_zero, List.set_cons_succ])
  refine rgT 7 (h := ?_)
  refine wpAnyH_done (by kernel_rfl) ?_ _
  have q0 := H2.out.bx 0 _ rfl
  go_wp2_with fail
  clear q0
  (refine wp_region_held_drew (S := (fun W => W.cell? ⟨g, 5, none⟩ = some (.int .i64 orr) ∧ W.cell? ⟨g, 6, none⟩ = some (.int .u64 oi) ∧ W.cell? ⟨R.tb, i * 3 + 1, none⟩ = some (.slice (some ⟨R.rb i, 0, none⟩) 4 (4 + R.rk i)))) (by kernel_rfl) ⟨H2.out.bx 5 _ rfl, H2.out.bx 6 _ rfl, H2.out.p.t1 i hi⟩ (fun hHeld => ?_); simp only [List.size_toArray, List.length_cons, List.length_nil, Nat.reduceAdd, Array.replicate_succ, Array.replicate_zero, List.push_toArray, List.append_toArray, List.nil_append, List.cons_append])
  refine rgT 0 (h := ?_)
  refine rgT 1 (h := ?_)
  refine rgT 2 (h := ?_)
  refine rgT 3 (h := ?_)
  refine rgT 4 (h := ?_)
  refine rgT 5 (h := ?_)
  (refine rgS 6 (h := fun K hK => ?_); go_simp)
  refine (rvalue_any W2.drew R ⟨s.wo, s.rg, upd s.pl i (pl + 1)⟩ H2.out.drew.p i hi orr oi ho).mono ?_
  rintro e W3 ⟨he, k2⟩
  have he' : e = .returned (.int .u64 ol) := by rw [Hol.out]; exact he
  subst he'
  have H3 : Hid (Rk w W3 R ⟨s.wo, s.rg, upd s.pl i (pl + 1)⟩ g ⟨3, j, k, nr, ni, orr, oi, n⟩) := H2.out.drew.still k2
  clear H2 k2 he
  (refine hK.out _ _ ⟨H3.out.bx 5 _ rfl, H3.out.bx 6 _ rfl, H3.out.p.t1 i hi⟩ (fun hHeld => ?_); clear hK K; try simp only [Act.put, List.setIfInBounds_toArray, List.set_cons_zero, List.set_cons_succ])
  refine rgT 7 (h := ?_)
  refine wpAnyH_done (by kernel_rfl) ?_ _
  have q0 := H3.out.bx 0 _ rfl
  go_wp2_with fail
  clear q0
  (refine wp_region_held_drew (S := (fun W => W.cell? ⟨R.bk, 0, none⟩ = some (.slice (some ⟨R.cb, 0, none⟩) R.wd R.cc) ∧ W.cell? ⟨g, 1, none⟩ = some (.int .i64 j) ∧ W.cell? ⟨R.cb, j, none⟩ = some (.int .u64 (s.wo j)))) (by kernel_rfl) ⟨H3.out.p.p0, H3.out.bx 1 _ rfl, H3.out.p.ce j hj⟩ (fun hHeld => ?_); simp only [List.size_toArray, List.length_cons, List.length_nil, Nat.reduceAdd, Array.replicate_succ, Array.replicate_zero, List.push_toArray, List.append_toArray, List.nil_append, List.cons_append])
  refine rgT 0 (h := ?_)
  refine rgT 1 (h := ?_)
  refine rgT 2 (h := ?_)
  refine rgT 3 (h := ?_)
  refine rgT 4 (h := ?_)
  refine rgT 5 (h := ?_)
  refine rgT 6 (h := ?_)
  refine rgT 7 (h := ?_)
  refine rgT 8 (h := ?_)
  refine rgT 9 (h := ?_)
  refine wpAnyH_done (by kernel_rfl) ?_ _
  go_wp2_with fail
  have H3d : Hid (Rk w W3.drew R ⟨s.wo, s.rg, upd s.pl i (pl + 1)⟩ g ⟨3, j, k, nr, ni, orr, oi, n⟩) := H3.out.drew
  clear H3
  generalize W3.drew = W4 at *
  (refine wp_region_held_drew (S := (fun W => W.cell? ⟨R.bk, 0, none⟩ = some (.slice (some ⟨R.cb, 0, none⟩) R.wd R.cc) ∧ W.cell? ⟨g, 1, none⟩ = some (.int .i64 j))) (by kernel_rfl) ⟨H3d.out.p.p0, H3d.out.bx 1 _ rfl⟩ (fun hHeld => ?_); simp only [List.size_toArray, List.length_cons, List.length_nil, Nat.reduceAdd, Array.replicate_succ, Array.replicate_zero, List.push_toArray, List.append_toArray, List.nil_append, List.cons_append])
  refine rgT 0 (h := ?_)
  refine rgT 1 (h := ?_)
  refine rgT 2 (h := ?_)
  refine rgT 3 (h := ?_)
  refine rgT 4 (h := ?_)
  refine rgT 5 (h := ?_)
  refine rgT 6 (h := ?_)
  refine rgT 7 (h := ?_)
  have c4 := H3d.out.drew.p.ce j hj
  have f4 := H3d.out.drew.p.fz R.cb j (.inr (.inl rfl))
  (refine rgS 8 (h := fun K hK => ?_); go_simp)
  have H5 : Hid (Rk w (W4.setCell ⟨R.cb, j, none⟩ (.int .u64 fr)).drew R ⟨upd s.wo j fr, s.rg, upd s.pl i (pl + 1)⟩ g ⟨3, j, k, nr, ni, orr, oi, n⟩) := (H3d.out.put (.inr (.inl rfl)) (H3d.out.p.setWo hR j fr hj)).drew
  clear H3d c4 f4
  (refine hK.out _ _ ⟨H5.out.p.p0, H5.out.bx 1 _ rfl⟩ (fun hHeld => ?_); clear hK K; try simp only [Act.put, List.setIfInBounds_toArray, List.set_cons_zero, List.set_cons_succ])
  refine wpAnyH_done (by kernel_rfl) ?_ _
  generalize (W4.setCell ⟨R.cb, j, none⟩ (.int .u64 fr)).drew = W5 at *
  go_wp2_with fail
  (refine wp_region_held_drew (S := (fun W => W.cell? ⟨R.tb, i * 3 + 1, none⟩ = some (.slice (some ⟨R.rb i, 0, none⟩) 4 (4 + R.rk i)) ∧ W.cell? ⟨g, 2, none⟩ = some (.int .i64 k))) (by kernel_rfl) ⟨H5.out.p.t1 i hi, H5.out.bx 2 _ rfl⟩ (fun hHeld => ?_); simp only [List.size_toArray, List.length_cons, List.length_nil, Nat.reduceAdd, Array.replicate_succ, Array.replicate_zero, List.push_toArray, List.append_toArray, List.nil_append, List.cons_append])
  refine rgT 0 (h := ?_)
  refine rgT 1 (h := ?_)
  refine rgT 2 (h := ?_)
  refine rgT 3 (h := ?_)
  refine rgT 4 (h := ?_)
  refine rgT 5 (h := ?_)
  refine rgT 6 (h := ?_)
  have c4 := H5.out.drew.p.rg i k hi hk
  have f4 := H5.out.drew.p.fz (R.rb i) k (.inr (.inr ⟨i, hi, rfl⟩))
  (refine rgS 7 (h := fun K hK => ?_); go_simp)
  have H6 : Hid (Rk w (W5.setCell ⟨R.rb i, k, none⟩ (.int .u64 1)).drew R ⟨upd s.wo j fr, upd s.rg i (upd (s.rg i) k 1), upd s.pl i (pl + 1)⟩ g ⟨3, j, k, nr, ni, orr, oi, n⟩) := (H5.out.put (.inr (.inr ⟨i, hi, rfl⟩)) (H5.out.p.setRg hR i k 1 hi hk)).drew
  clear H5 c4 f4
  (refine hK.out _ _ ⟨H6.out.p.t1 i hi, H6.out.bx 2 _ rfl⟩ (fun hHeld => ?_); clear hK K; try simp only [Act.put, List.setIfInBounds_toArray, List.set_cons_zero, List.set_cons_succ])
  refine wpAnyH_done (by kernel_rfl) ?_ _
  generalize (W5.setCell ⟨R.rb i, k, none⟩ (.int .u64 1)).drew = W6 at *
  go_wp2_with fail
  (refine wp_region_held_drew (S := (fun W => W.cell? ⟨R.tb, i * 3 + 2, none⟩ = some (.int .i64 ((pl + 1 : Nat) : Int)) ∧ W.cell? ⟨R.tb, i * 3, none⟩ = some (.slice (some ⟨ib, 0, none⟩) m (R.icap i)))) (by kernel_rfl) ⟨H6.out.p.t2' hi, H6.out.p.t0' hi hia hml⟩ (fun hHeld => ?_); simp only [List.size_toArray, List.length_cons, List.length_nil, Nat.reduceAdd, Array.replicate_succ, Array.replicate_zero, List.push_toArray, List.append_toArray, List.nil_append, List.cons_append])
  refine rgT 0 (h := ?_)
  refine rgT 1 (h := ?_)
  refine rgT 2 (h := ?_)
  refine rgT 3 (h := ?_)
  refine rgT 4 (h := ?_)
  refine rgT 5 (h := ?_)
  refine rgT 6 (h := ?_)
  refine rgT 7 (h := ?_)
  refine rgT 8 (h := ?_)
  refine rgT 9 (h := ?_)
  refine rgT 10 (h := ?_)
  refine wpAnyH_done (by kernel_rfl) ?_ _
  go_wp2
  go_ret
  have e1 : decide ((m : Int) ≤ (((pl + 1 : Nat)) : Int)) = decide (m ≤ pl + 1) := by congr 1; exact propext ⟨fun h => by omega, fun h => by omega⟩
  exact ⟨by simpa using e1, H6.out.drew.p, H6.out.drew.k⟩
theorem rstep_3m (R : Rd) (hR : RdOk R) (w : World) (s : Ls) (h : RP R w s) (i : Nat) (hi : i < R.n) (pl m ib : Nat) (c r nr ni orr oi n : Int) (hia : R.ia i = some ⟨ib, 0, none⟩) (hml : (R.ins i).length = m) (h8 : In8 w ib pl 3 c r nr ni orr oi n) (hpl : pl < m) (hm : m ≤ 1000) (hps : s.pl i = pl) (c0 : 0 ≤ c) (c1 : c < (R.wd : Int)) (r0 : 0 ≤ r) (r1 : r < 4) (hv : nr ≤ 3) (ho : orr ≤ 3) (hq : ¬ s.wo c.toNat = valP (s.rg i) orr oi) :
    Calls Tryz.prog 69 #[.pointer (some ⟨R.bk, 0, none⟩), .int .i64 (i : Int)] w fun e w' => e = .returned (.bool (decide (m ≤ pl + 1))) ∧ RP R w' ⟨s.wo, upd s.rg i (upd (s.rg i) r.toNat 0), upd s.pl i (pl + 1)⟩ ∧ Keeps (fRw R) w w' := by
  obtain ⟨j, rfl⟩ : ∃ j : Nat, c = (j : Int) := ⟨c.toNat, by omega⟩
  have hj : j < R.wd := by omega
  have ej : ((j : Int)).toNat = j := by omega
  rw [ej] at hq
  have j0 : (0 : Int) ≤ (j : Int) := Int.natCast_nonneg _
  obtain ⟨k, rfl⟩ : ∃ k : Nat, r = (k : Int) := ⟨r.toNat, by omega⟩
  have hk : k < 4 := by omega
  have ek : ((k : Int)).toNat = k := by omega
  rw [ek]
  have hr0 : (0 : Int) ≤ (k : Int) := Int.natCast_nonneg _
  have hr1 : (k : Int) < 4 := by omega
  obtain ⟨fr, hfr⟩ : ∃ x, x = valP (s.rg i) nr ni := ⟨_, rfl⟩
  have Hfr : Hid (fr = valP (s.rg i) nr ni) := hfr
  clear hfr
  obtain ⟨ol, hol⟩ : ∃ x, x = valP (s.rg i) orr oi := ⟨_, rfl⟩
  rw [← hol] at hq
  have Hol : Hid (ol = valP (s.rg i) orr oi) := hol
  clear hol
  have p1 := h.p1
  have i0 : (0 : Int) ≤ (i : Int) := Int.natCast_nonneg _
  have i1 : (i : Int) < (R.n : Int) := by omega
  have hp0 : (0 : Int) ≤ (pl : Int) := Int.natCast_nonneg _
  have hp1 : (pl : Int) < (m : Int) := by omega
  have hlt : ¬ (m : Int) ≤ (pl : Int) := by omega
  have ht2 := h.t2 i hi
  rw [hps] at ht2
  have ht0 := h.t0' hi hia hml
  have H : Hid (RP R w s ∧ w.cell? ⟨R.tb, i * 3 + 2, none⟩ = some (.int .i64 (pl : Int)) ∧ w.cell? ⟨R.tb, i * 3, none⟩ = some (.slice (some ⟨ib, 0, none⟩) m (R.icap i))) := ⟨h, ht2, ht0⟩
  have HA : Hid (∀ W, Keeps (fun _ => False) w W → W.cell? ⟨R.tb, i * 3 + 2, none⟩ = some (.int .i64 (pl : Int)) ∧ W.cell? ⟨R.tb, i * 3, none⟩ = some (.slice (some ⟨ib, 0, none⟩) m (R.icap i)) ∧ W.cell? ⟨ib, pl * 8, none⟩ = some (.int .i64 3) ∧ W.cell? ⟨ib, pl * 8 + 1, none⟩ = some (.int .i64 j) ∧ W.cell? ⟨ib, pl * 8 + 2, none⟩ = some (.int .i64 k) ∧ W.cell? ⟨ib, pl * 8 + 3, none⟩ = some (.int .i64 nr) ∧ W.cell? ⟨ib, pl * 8 + 4, none⟩ = some (.int .u64 ni) ∧ W.cell? ⟨ib, pl * 8 + 5, none⟩ = some (.int .i64 orr) ∧ W.cell? ⟨ib, pl * 8 + 6, none⟩ = some (.int .u64 oi) ∧ W.cell? ⟨ib, pl * 8 + 7, none⟩ = some (.int .i64 n)) := fun W k => by
    have q := h8.keeps k (fun e => e)
    exact ⟨((k.cell (p := ⟨R.tb, i * 3 + 2, none⟩) (h.lt _ (.inl (.inl rfl))) (fun e => e))).trans ht2, ((k.cell (p := ⟨R.tb, i * 3, none⟩) (h.lt _ (.inl (.inl rfl))) (fun e => e))).trans ht0, q.c0, q.c1, q.c2, q.c3, q.c4, q.c5, q.c6, q.c7⟩
  have HS : Hid (Rk w (w.alloc (.cells (iV ⟨3, j, k, nr, ni, orr, oi, n⟩) 106)).drew.drew R s w.heap.size ⟨3, j, k, nr, ni, orr, oi, n⟩) := (Rk.start _ h).drew.drew
  clear h ht2 ht0 h8
  go_enter Tryz.func69, Tryz.ntmps69
  go_wp2_with fail
  (refine wp_region_held_drew (S := (fun W => W.cell? ⟨R.tb, i * 3 + 2, none⟩ = some (.int .i64 (pl : Int)) ∧ W.cell? ⟨R.tb, i * 3, none⟩ = some (.slice (some ⟨ib, 0, none⟩) m (R.icap i)))) (by kernel_rfl) ⟨H.out.2.1, H.out.2.2⟩ (fun hHeld => ?_); simp only [List.size_toArray, List.length_cons, List.length_nil, Nat.reduceAdd, Array.replicate_succ, Array.replicate_zero, List.push_toArray, List.append_toArray, List.nil_append, List.cons_append])
  refine rgT 0 (h := ?_)
  refine rgT 1 (h := ?_)
  refine rgT 2 (h := ?_)
  refine rgT 3 (h := ?_)
  refine rgT 4 (h := ?_)
  refine rgT 5 (h := ?_)
  refine rgT 6 (h := ?_)
  refine rgT 7 (h := ?_)
  refine rgT 8 (h := ?_)
  refine rgT 9 (h := ?_)
  refine wpAnyH_done (by kernel_rfl) ?_ _
  go_wp2_with fail
  (refine wp_region_held_drew (S := (fun W => W.cell? ⟨R.tb, i * 3 + 2, none⟩ = some (.int .i64 (pl : Int)) ∧ W.cell? ⟨R.tb, i * 3, none⟩ = some (.slice (some ⟨ib, 0, none⟩) m (R.icap i)) ∧ W.cell? ⟨ib, pl * 8, none⟩ = some (.int .i64 3) ∧ W.cell? ⟨ib, pl * 8 + 1, none⟩ = some (.int .i64 j) ∧ W.cell? ⟨ib, pl * 8 + 2, none⟩ = some (.int .i64 k) ∧ W.cell? ⟨ib, pl * 8 + 3, none⟩ = some (.int .i64 nr) ∧ W.cell? ⟨ib, pl * 8 + 4, none⟩ = some (.int .u64 ni) ∧ W.cell? ⟨ib, pl * 8 + 5, none⟩ = some (.int .i64 orr) ∧ W.cell? ⟨ib, pl * 8 + 6, none⟩ = some (.int .u64 oi) ∧ W.cell? ⟨ib, pl * 8 + 7, none⟩ = some (.int .i64 n))) (by kernel_rfl) (HA.out _ (Keeps.refl _ _).drew.drew) (fun hHeld => ?_); simp only [List.size_toArray, List.length_cons, List.length_nil, Nat.reduceAdd, Array.replicate_succ, Array.replicate_zero, List.push_toArray, List.append_toArray, List.nil_append, List.cons_append])
  refine rgT 0 (h := ?_)
  refine rgT 1 (h := ?_)
  refine rgT 2 (h := ?_)
  refine rgT 3 (h := ?_)
  refine rgT 4 (h := ?_)
  refine rgT 5 (h := ?_)
  refine rgT 6 (h := ?_)
  refine rgT 7 (h := ?_)
  refine rgT 8 (h := ?_)
  refine rgT 9 (h := ?_)
  (refine rgS 10 (h := fun K hK => ?_); go_simp)
  (refine hK.out _ _ (HA.out _ ((Keeps.refl _ _).alloc _).drew.drew) (fun hHeld => ?_); clear hK K; try simp only [Act.put, List.setIfInBounds_toArray, List.set_cons_zero, List.set_cons_succ])
  (refine rgS 11 (h := fun K hK => ?_); go_simp)
  (refine hK.out _ _ (HA.out _ ((Keeps.refl _ _).alloc _).drew.drew) (fun hHeld => ?_); clear hK K; try simp only [Act.put, List.setIfInBounds_toArray, List.set_cons_zero, List.set_cons_succ])
  refine wpAnyH_done (by kernel_rfl) ?_ _
  clear H HA p1 hlt hp0 hp1
  change Hid (Rk w (w.alloc (.cells #[.int .i64 3, .int .i64 j, .int .i64 k, .int .i64 nr, .int .u64 ni, .int .i64 orr, .int .u64 oi, .int .i64 n] 106)).drew.drew R s w.heap.size ⟨3, j, k, nr, ni, orr, oi, n⟩) at HS
  generalize (w.alloc (.cells #[.int .i64 3, .int .i64 j, .int .i64 k, .int .i64 nr, .int .u64 ni, .int .i64 orr, .int .u64 oi, .int .i64 n] 106)).drew.drew = W0 at *
  generalize w.heap.size = g at *
  have t2 := HS.out.p.t2 i hi
  rw [hps] at t2
  have f2 := HS.out.p.fz R.tb (i * 3 + 2) (.inl rfl)
  have b0 := HS.out.bx 0 _ rfl
  have hw1 : (pl : Int) + 1 = ((pl + 1 : Nat) : Int) := by omega
  have H1 : Hid (Rk w (W0.setCell ⟨R.tb, i * 3 + 2, none⟩ (.int .i64 ((pl : Int) + 1))) R ⟨s.wo, s.rg, upd s.pl i (pl + 1)⟩ g ⟨3, j, k, nr, ni, orr, oi, n⟩) := by
    rw [hw1]
    exact HS.out.put (.inl rfl) (HS.out.p.setPl hR i (pl + 1) hi)
  clear hw1
  have nb : (⟨R.tb, i * 3 + 2, none⟩ : Addr) ≠ ⟨g, 0, none⟩ := fun e => HS.out.ng (.inl (.inl (congrArg Addr.block e).symm))
  have b1 := H1.out.bx 0 _ rfl
  go_wp2_with fail
  clear t2 f2 b0 nb b1 HS
  generalize W0.setCell ⟨R.tb, i * 3 + 2, none⟩ (.int .i64 ((pl : Int) + 1)) = W1 at *
  (refine wp_region_held_drew (S := (fun W => W.cell? ⟨g, 3, none⟩ = some (.int .i64 nr) ∧ W.cell? ⟨g, 4, none⟩ = some (.int .u64 ni) ∧ W.cell? ⟨R.tb, i * 3 + 1, none⟩ = some (.slice (some ⟨R.rb i, 0, none⟩) 4 (4 + R.rk i)))) (by kernel_rfl) ⟨H1.out.bx 3 _ rfl, H1.out.bx 4 _ rfl, H1.out.p.t1 i hi⟩ (fun hHeld => ?_); simp only [List.size_toArray, List.length_cons, List.length_nil, Nat.reduceAdd, Array.replicate_succ, Array.replicate_zero, List.push_toArray, List.append_toArray, List.nil_append, List.cons_append])
  refine rgT 0 (h := ?_)
  refine rgT 1 (h := ?_)
  refine rgT 2 (h := ?_)
  refine rgT 3 (h := ?_)
  refine rgT 4 (h := ?_)
  refine rgT 5 (h := ?_)
  (refine rgS 6 (h := fun K hK => ?_); go_simp)
  refine (rvalue_any W1.drew R ⟨s.wo, s.rg, upd s.pl i (pl + 1)⟩ H1.out.drew.p i hi nr ni hv).mono ?_
  rintro e W2 ⟨he, k2⟩
  have he' : e = .returned (.int .u64 fr) := by rw [Hfr.out]; exact he
  subst he'
  have H2 : Hid (Rk w W2 R ⟨s.wo, s.rg, upd s.pl i (pl + 1)⟩ g ⟨3, j, k, nr, ni, orr, oi, n⟩) := H1.out.drew.still k2
  clear H1 k2 he
  (refine hK.out _ _ ⟨H2.out.bx 3 _ rfl, H2.out.bx 4 _ rfl, H2.out.p.t1 i hi⟩ (fun hHeld => ?_); clear hK K; try simp only [Act.put, List.setIfInBounds_toArray, List.set_cons_zero, List.set_cons_succ])
  refine rgT 7 (h := ?_)
  refine wpAnyH_done (by kernel_rfl) ?_ _
  have q0 := H2.out.bx 0 _ rfl
  go_wp2_with fail
  clear q0
  (refine wp_region_held_drew (S := (fun W => W.cell? ⟨g, 5, none⟩ = some (.int .i64 orr) ∧ W.cell? ⟨g, 6, none⟩ = some (.int .u64 oi) ∧ W.cell? ⟨R.tb, i * 3 + 1, none⟩ = some (.slice (some ⟨R.rb i, 0, none⟩) 4 (4 + R.rk i)))) (by kernel_rfl) ⟨H2.out.bx 5 _ rfl, H2.out.bx 6 _ rfl, H2.out.p.t1 i hi⟩ (fun hHeld => ?_); simp only [List.size_toArray, List.length_cons, List.length_nil, Nat.reduceAdd, Array.replicate_succ, Array.replicate_zero, List.push_toArray, List.append_toArray, List.nil_append, List.cons_append])
  refine rgT 0 (h := ?_)
  refine rgT 1 (h := ?_)
  refine rgT 2 (h := ?_)
  refine rgT 3 (h := ?_)
  refine rgT 4 (h := ?_)
  refine rgT 5 (h := ?_)
  (refine rgS 6 (h := fun K hK => ?_); go_simp)
  refine (rvalue_any W2.drew R ⟨s.wo, s.rg, upd s.pl i (pl + 1)⟩ H2.out.drew.p i hi orr oi ho).mono ?_
  rintro e W3 ⟨he, k2⟩
  have he' : e = .returned (.int .u64 ol) := by rw [Hol.out]; exact he
  subst he'
  have H3 : Hid (Rk w W3 R ⟨s.wo, s.rg, upd s.pl i (pl + 1)⟩ g ⟨3, j, k, nr, ni, orr, oi, n⟩) := H2.out.drew.still k2
  clear H2 k2 he
  (refine hK.out _ _ ⟨H3.out.bx 5 _ rfl, H3.out.bx 6 _ rfl, H3.out.p.t1 i hi⟩ (fun hHeld => ?_); clear hK K; try simp only [Act.put, List.setIfInBounds_toArray, List.set_cons_zero, List.set_cons_succ])
  refine rgT 7 (h := ?_)
  refine wpAnyH_done (by kernel_rfl) ?_ _
  have q0 := H3.out.bx 0 _ rfl
  go_wp2_with fail
  clear q0
  (refine wp_region_held_drew (S := (fun W => W.cell? ⟨R.bk, 0, none⟩ = some (.slice (some ⟨R.cb, 0, none⟩) R.wd R.cc) ∧ W.cell? ⟨g, 1, none⟩ = some (.int .i64 j) ∧ W.cell? ⟨R.cb, j, none⟩ = some (.int .u64 (s.wo j)))) (by kernel_rfl) ⟨H3.out.p.p0, H3.out.bx 1 _ rfl, H3.out.p.ce j hj⟩ (fun hHeld => ?_); simp only [List.size_toArray, List.length_cons, List.length_nil, Nat.reduceAdd, Array.replicate_succ, Array.replicate_zero, List.push_toArray, List.append_toArray, List.nil_append, List.cons_append])
  refine rgT 0 (h := ?_)
  refine rgT 1 (h := ?_)
  refine rgT 2 (h := ?_)
  refine rgT 3 (h := ?_)
  refine rgT 4 (h := ?_)
  refine rgT 5 (h := ?_)
  refine rgT 6 (h := ?_)
  refine rgT 7 (h := ?_)
  refine rgT 8 (h := ?_)
  refine rgT 9 (h := ?_)
  refine wpAnyH_done (by kernel_rfl) ?_ _
  go_wp2_with fail
  have H3d : Hid (Rk w W3.drew R ⟨s.wo, s.rg, upd s.pl i (pl + 1)⟩ g ⟨3, j, k, nr, ni, orr, oi, n⟩) := H3.out.drew
  clear H3
  generalize W3.drew = W4 at *
  (refine wp_region_held_drew (S := (fun W => W.cell? ⟨R.tb, i * 3 + 1, none⟩ = some (.slice (some ⟨R.rb i, 0, none⟩) 4 (4 + R.rk i)) ∧ W.cell? ⟨g, 2, none⟩ = some (.int .i64 k))) (by kernel_rfl) ⟨H3d.out.p.t1 i hi, H3d.out.bx 2 _ rfl⟩ (fun hHeld => ?_); simp only [List.size_toArray, List.length_cons, List.length_nil, Nat.reduceAdd, Array.replicate_succ, Array.replicate_zero, List.push_toArray, List.append_toArray, List.nil_append, List.cons_append])
  refine rgT 0 (h := ?_)
  refine rgT 1 (h := ?_)
  refine rgT 2 (h := ?_)
  refine rgT 3 (h := ?_)
  refine rgT 4 (h := ?_)
  refine rgT 5 (h := ?_)
  refine rgT 6 (h := ?_)
  have c4 := H3d.out.drew.p.rg i k hi hk
  have f4 := H3d.out.drew.p.fz (R.rb i) k (.inr (.inr ⟨i, hi, rfl⟩))
  (refine rgS 7 (h := fun K hK => ?_); go_simp)
  have H6 : Hid (Rk w (W4.setCell ⟨R.rb i, k, none⟩ (.int .u64 0)).drew R ⟨s.wo, upd s.rg i (upd (s.rg i) k 0), upd s.pl i (pl + 1)⟩ g ⟨3, j, k, nr, ni, orr, oi, n⟩) := (H3d.out.put (.inr (.inr ⟨i, hi, rfl⟩)) (H3d.out.p.setRg hR i k 0 hi hk)).drew
  clear H3d c4 f4
  (refine hK.out _ _ ⟨H6.out.p.t1 i hi, H6.out.bx 2 _ rfl⟩ (fun hHeld => ?_); clear hK K; try simp only [Act.put, List.setIfInBounds_toArray, List.set_cons_zero, List.set_cons_succ])
  refine wpAnyH_done (by kernel_rfl) ?_ _
  generalize (W4.setCell ⟨R.rb i, k, none⟩ (.int .u64 0)).drew = W6 at *
  go_wp2_with fail
  (refine wp_region_held_drew (S := (fun W => W.cell? ⟨R.tb, i * 3 + 2, none⟩ = some (.int .i64 ((pl + 1 : Nat) : Int)) ∧ W.cell? ⟨R.tb, i * 3, none⟩ = some (.slice (some ⟨ib, 0, none⟩) m (R.icap i)))) (by kernel_rfl) ⟨H6.out.p.t2' hi, H6.out.p.t0' hi hia hml⟩ (fun hHeld => ?_); simp only [List.size_toArray, List.length_cons, List.length_nil, Nat.reduceAdd, Array.replicate_succ, Array.replicate_zero, List.push_toArray, List.append_toArray, List.nil_append, List.cons_append])
  refine rgT 0 (h := ?_)
  refine rgT 1 (h := ?_)
  refine rgT 2 (h := ?_)
  refine rgT 3 (h := ?_)
  refine rgT 4 (h := ?_)
  refine rgT 5 (h := ?_)
  refine rgT 6 (h := ?_)
  refine rgT 7 (h := ?_)
  refine rgT 8 (h := ?_)
  refine rgT 9 (h := ?_)
  refine rgT 10 (h := ?_)
  refine wpAnyH_done (by kernel_rfl) ?_ _
  go_wp2
  go_ret
  have e1 : decide ((m : Int) ≤ (((pl + 1 : Nat)) : Int)) = decide (m ≤ pl + 1) := by congr 1; exact propext ⟨fun h => by omega, fun h => by omega⟩
  exact ⟨by simpa using e1, H6.out.drew.p, H6.out.drew.k⟩
end Go.Proofs.YtdpebhdjcgiboaaGreat

namespace Go.Proofs.YtdpebhdjcgiboaaGreat
set_option linter.unusedSimpArgs false
open Go.ChangeShapes Go.WideShapes Go.ChangeAt Go.RowKit Go.MuLone Go.RwLone
set_option linter.unusedVariables false
set_option maxRecDepth 100000
set_option maxHeartbeats 3200000
theorem rstep_4 (R : Rd) (hR : RdOk R) (w : World) (s : Ls) (h : RP R w s) (i : Nat) (hi : i < R.n) (pl m ib : Nat) (c r nr ni orr oi n : Int) (hia : R.ia i = some ⟨ib, 0, none⟩) (hml : (R.ins i).length = m) (h8 : In8 w ib pl 4 c r nr ni orr oi n) (hpl : pl < m) (hm : m ≤ 1000) (hps : s.pl i = pl) (c0 : 0 ≤ c) (c1 : c < (R.wd : Int)) (r0 : 0 ≤ r) (r1 : r < 4) (hv : nr ≤ 3) :
    Calls Tryz.prog 69 #[.pointer (some ⟨R.bk, 0, none⟩), .int .i64 (i : Int)] w fun e w' => e = .returned (.bool (decide (m ≤ pl + 1))) ∧ RP R w' ⟨upd s.wo c.toNat ((s.wo c.toNat + valP (s.rg i) nr ni) % 18446744073709551616), upd s.rg i (upd (s.rg i) r.toNat (s.wo c.toNat)), upd s.pl i (pl + 1)⟩ ∧ Keeps (fRw R) w w' := by
  obtain ⟨j, rfl⟩ : ∃ j : Nat, c = (j : Int) := ⟨c.toNat, by omega⟩
  have hj : j < R.wd := by omega
  have ej : ((j : Int)).toNat = j := by omega
  rw [ej]
  have j0 : (0 : Int) ≤ (j : Int) := Int.natCast_nonneg _
  obtain ⟨k, rfl⟩ : ∃ k : Nat, r = (k : Int) := ⟨r.toNat, by omega⟩
  have hk : k < 4 := by omega
  have ek : ((k : Int)).toNat = k := by omega
  rw [ek]
  have hr0 : (0 : Int) ≤ (k : Int) := Int.natCast_nonneg _
  have hr1 : (k : Int) < 4 := by omega
  obtain ⟨fr, hfr⟩ : ∃ x, x = valP (s.rg i) nr ni := ⟨_, rfl⟩
  rw [← hfr]
  have Hfr : Hid (fr = valP (s.rg i) nr ni) := hfr
  clear hfr
  have p1 := h.p1
  have i0 : (0 : Int) ≤ (i : Int) := Int.natCast_nonneg _
  have i1 : (i : Int) < (R.n : Int) := by omega
  have hp0 : (0 : Int) ≤ (pl : Int) := Int.natCast_nonneg _
  have hp1 : (pl : Int) < (m : Int) := by omega
  have hlt : ¬ (m : Int) ≤ (pl : Int) := by omega
  have ht2 := h.t2 i hi
  rw [hps] at ht2
  have ht0 := h.t0' hi hia hml
  have H : Hid (RP R w s ∧ w.cell? ⟨R.tb, i * 3 + 2, none⟩ = some (.int .i64 (pl : Int)) ∧ w.cell? ⟨R.tb, i * 3, none⟩ = some (.slice (some ⟨ib, 0, none⟩) m (R.icap i))) := ⟨h, ht2, ht0⟩
  have HA : Hid (∀ W, Keeps (fun _ => False) w W → W.cell? ⟨R.tb, i * 3 + 2, none⟩ = some (.int .i64 (pl : Int)) ∧ W.cell? ⟨R.tb, i * 3, none⟩ = some (.slice (some ⟨ib, 0, none⟩) m (R.icap i)) ∧ W.cell? ⟨ib, pl * 8, none⟩ = some (.int .i64 4) ∧ W.cell? ⟨ib, pl * 8 + 1, none⟩ = some (.int .i64 j) ∧ W.cell? ⟨ib, pl * 8 + 2, none⟩ = some (.int .i64 k) ∧ W.cell? ⟨ib, pl * 8 + 3, none⟩ = some (.int .i64 nr) ∧ W.cell? ⟨ib, pl * 8 + 4, none⟩ = some (.int .u64 ni) ∧ W.cell? ⟨ib, pl * 8 + 5, none⟩ = some (.int .i64 orr) ∧ W.cell? ⟨ib, pl * 8 + 6, none⟩ = some (.int .u64 oi) ∧ W.cell? ⟨ib, pl * 8 + 7, none⟩ = some (.int .i64 n)) := fun W k => by
    have q := h8.keeps k (fun e => e)
    exact ⟨((k.cell (p := ⟨R.tb, i * 3 + 2, none⟩) (h.lt _ (.inl (.inl rfl))) (fun e => e))).trans ht2, ((k.cell (p := ⟨R.tb, i * 3, none⟩) (h.lt _ (.inl (.inl rfl))) (fun e => e))).trans ht0, q.c0, q.c1, q.c2, q.c3, q.c4, q.c5, q.c6, q.c7⟩
  have HS : Hid (Rk w (w.alloc (.cells (iV ⟨4, j, k, nr, ni, orr, oi, n⟩) 106)).drew.drew R s w.heap.size ⟨4, j, k, nr, ni, orr, oi, n⟩) := (Rk.start _ h).drew.drew
  clear h ht2 ht0 h8
  go_enter Tryz.func69, Tryz.ntmps69
  go_wp2_with fail
  (refine wp_region_held_drew (S := (fun W => W.cell? ⟨R.tb, i * 3 + 2, none⟩ = some (.int .i64 (pl : Int)) ∧ W.cell? ⟨R.tb, i * 3, none⟩ = some (.slice (some ⟨ib, 0, none⟩) m (R.icap i)))) (by kernel_rfl) ⟨H.out.2.1, H.out.2.2⟩ (fun hHeld => ?_); simp only [List.size_toArray, List.length_cons, List.length_nil, Nat.reduceAdd, Array.replicate_succ, Array.replicate_zero, List.push_toArray, List.append_toArray, List.nil_append, List.cons_append])
  refine rgT 0 (h := ?_)
  refine rgT 1 (h := ?_)
  refine rgT 2 (h := ?_)
  refine rgT 3 (h := ?_)
  refine rgT 4 (h := ?_)
  refine rgT 5 (h := ?_)
  refine rgT 6 (h := ?_)
  refine rgT 7 (h := ?_)
  refine rgT 8 (h := ?_)
  refine rgT 9 (h := ?_)
  refine wpAnyH_done (by kernel_rfl) ?_ _
  go_wp2_with fail
  (refine wp_region_held_drew (S := (fun W => W.cell? ⟨R.tb, i * 3 + 2, none⟩ = some (.int .i64 (pl : Int)) ∧ W.cell? ⟨R.tb, i * 3, none⟩ = some (.slice (some ⟨ib, 0, none⟩) m (R.icap i)) ∧ W.cell? ⟨ib, pl * 8, none⟩ = some (.int .i64 4) ∧ W.cell? ⟨ib, pl * 8 + 1, none⟩ = some (.int .i64 j) ∧ W.cell? ⟨ib, pl * 8 + 2, none⟩ = some (.int .i64 k) ∧ W.cell? ⟨ib, pl * 8 + 3, none⟩ = some (.int .i64 nr) ∧ W.cell? ⟨ib, pl * 8 + 4, none⟩ = some (.int .u64 ni) ∧ W.cell? ⟨ib, pl * 8 + 5, none⟩ = some (.int .i64 orr) ∧ W.cell? ⟨ib, pl * 8 + 6, none⟩ = some (.int .u64 oi) ∧ W.cell? ⟨ib, pl * 8 + 7, none⟩ = some (.int .i64 n))) (by kernel_rfl) (HA.out _ (Keeps.refl _ _).drew.drew) (fun hHeld => ?_); simp only [List.size_toArray, List.length_cons, List.length_nil, Nat.reduceAdd, Array.replicate_succ, Array.replicate_zero, List.push_toArray, List.append_toArray, List.nil_append, List.cons_append])
  refine rgT 0 (h := ?_)
  refine rgT 1 (h := ?_)
  refine rgT 2 (h := ?_)
  refine rgT 3 (h := ?_)
  refine rgT 4 (h := ?_)
  refine rgT 5 (h := ?_)
  refine rgT 6 (h := ?_)
  refine rgT 7 (h := ?_)
  refine rgT 8 (h := ?_)
  refine rgT 9 (h := ?_)
  (refine rgS 10 (h := fun K hK => ?_); go_simp)
  (refine hK.out _ _ (HA.out _ ((Keeps.refl _ _).alloc _).drew.drew) (fun hHeld => ?_); clear hK K; try simp only [Act.put, List.setIfInBounds_toArray, List.set_cons_zero, List.set_cons_succ])
  (refine rgS 11 (h := fun K hK => ?_); go_simp)
  (refine hK.out _ _ (HA.out _ ((Keeps.refl _ _).alloc _).drew.drew) (fun hHeld => ?_); clear hK K; try simp only [Act.put, List.setIfInBounds_toArray, List.set_cons_zero, List.set_cons_succ])
  refine wpAnyH_done (by kernel_rfl) ?_ _
  clear H HA p1 hlt hp0 hp1
  change Hid (Rk w (w.alloc (.cells #[.int .i64 4, .int .i64 j, .int .i64 k, .int .i64 nr, .int .u64 ni, .int .i64 orr, .int .u64 oi, .int .i64 n] 106)).drew.drew R s w.heap.size ⟨4, j, k, nr, ni, orr, oi, n⟩) at HS
  generalize (w.alloc (.cells #[.int .i64 4, .int .i64 j, .int .i64 k, .int .i64 nr, .int .u64 ni, .int .i64 orr, .int .u64 oi, .int .i64 n] 106)).drew.drew = W0 at *
  generalize w.heap.size = g at *
  have t2 := HS.out.p.t2 i hi
  rw [hps] at t2
  have f2 := HS.out.p.fz R.tb (i * 3 + 2) (.inl rfl)
  have b0 := HS.out.bx 0 _ rfl
  have hw1 : (pl : Int) + 1 = ((pl + 1 : Nat) : Int) := by omega
  have H1 : Hid (Rk w (W0.setCell ⟨R.tb, i * 3 + 2, none⟩ (.int .i64 ((pl : Int) + 1))) R ⟨s.wo, s.rg, upd s.pl i (pl + 1)⟩ g ⟨4, j, k, nr, ni, orr, oi, n⟩) := by
    rw [hw1]
    exact HS.out.put (.inl rfl) (HS.out.p.setPl hR i (pl + 1) hi)
  clear hw1
  have nb : (⟨R.tb, i * 3 + 2, none⟩ : Addr) ≠ ⟨g, 0, none⟩ := fun e => HS.out.ng (.inl (.inl (congrArg Addr.block e).symm))
  have b1 := H1.out.bx 0 _ rfl
  go_wp2_with fail
  clear t2 f2 b0 nb b1 HS
  generalize W0.setCell ⟨R.tb, i * 3 + 2, none⟩ (.int .i64 ((pl : Int) + 1)) = W1 at *
  (refine wp_region_held_drew (S := (fun W => W.cell? ⟨g, 3, none⟩ = some (.int .i64 nr) ∧ W.cell? ⟨g, 4, none⟩ = some (.int .u64 ni) ∧ W.cell? ⟨R.tb, i * 3 + 1, none⟩ = some (.slice (some ⟨R.rb i, 0, none⟩) 4 (4 + R.rk i)))) (by kernel_rfl) ⟨H1.out.bx 3 _ rfl, H1.out.bx 4 _ rfl, H1.out.p.t1 i hi⟩ (fun hHeld => ?_); simp only [List.size_toArray, List.length_cons, List.length_nil, Nat.reduceAdd, Array.replicate_succ, Array.replicate_zero, List.push_toArray, List.append_toArray, List.nil_append, List.cons_append])
  refine rgT 0 (h := ?_)
  refine rgT 1 (h := ?_)
  refine rgT 2 (h := ?_)
  refine rgT 3 (h := ?_)
  refine rgT 4 (h := ?_)
  refine rgT 5 (h := ?_)
  (refine rgS 6 (h := fun K hK => ?_); go_simp)
  refine (rvalue_any W1.drew R ⟨s.wo, s.rg, upd s.pl i (pl + 1)⟩ H1.out.drew.p i hi nr ni hv).mono ?_
  rintro e W2 ⟨he, k2⟩
  have he' : e = .returned (.int .u64 fr) := by rw [Hfr.out]; exact he
  subst he'
  have H2 : Hid (Rk w W2 R ⟨s.wo, s.rg, upd s.pl i (pl + 1)⟩ g ⟨4, j, k, nr, ni, orr, oi, n⟩) := H1.out.drew.still k2
  clear H1 k2 he
  (refine hK.out _ _ ⟨H2.out.bx 3 _ rfl, H2.out.bx 4 _ rfl, H2.out.p.t1 i hi⟩ (fun hHeld => ?_); clear hK K; try simp only [Act.put, List.setIfInBounds_toArray, List.set_cons_zero, List.set_cons_succ])
  refine rgT 7 (h := ?_)
  refine wpAnyH_done (by kernel_rfl) ?_ _
  have q0 := H2.out.bx 0 _ rfl
  go_wp2_with fail
  clear q0
  (refine wp_region_held_drew (S := (fun W => W.cell? ⟨R.tb, i * 3 + 1, none⟩ = some (.slice (some ⟨R.rb i, 0, none⟩) 4 (4 + R.rk i)) ∧ W.cell? ⟨R.bk, 0, none⟩ = some (.slice (some ⟨R.cb, 0, none⟩) R.wd R.cc) ∧ W.cell? ⟨g, 1, none⟩ = some (.int .i64 j) ∧ W.cell? ⟨g, 2, none⟩ = some (.int .i64 k) ∧ W.cell? ⟨R.cb, j, none⟩ = some (.int .u64 (s.wo j)))) (by kernel_rfl) ⟨H2.out.p.t1 i hi, H2.out.p.p0, H2.out.bx 1 _ rfl, H2.out.bx 2 _ rfl, H2.out.p.ce j hj⟩ (fun hHeld => ?_); simp only [List.size_toArray, List.length_cons, List.length_nil, Nat.reduceAdd, Array.replicate_succ, Array.replicate_zero, List.push_toArray, List.append_toArray, List.nil_append, List.cons_append])
  refine rgT 0 (h := ?_)
  refine rgT 1 (h := ?_)
  refine rgT 2 (h := ?_)
  refine rgT 3 (h := ?_)
  refine rgT 4 (h := ?_)
  refine rgT 5 (h := ?_)
  refine rgT 6 (h := ?_)
  refine rgT 7 (h := ?_)
  refine rgT 8 (h := ?_)
  refine rgT 9 (h := ?_)
  refine rgT 10 (h := ?_)
  refine rgT 11 (h := ?_)
  refine rgT 12 (h := ?_)
  refine rgT 13 (h := ?_)
  refine rgT 14 (h := ?_)
  have c4 := H2.out.drew.p.rg i k hi hk
  have f4 := H2.out.drew.p.fz (R.rb i) k (.inr (.inr ⟨i, hi, rfl⟩))
  (refine rgS 15 (h := fun K hK => ?_); go_simp)
  have H3 : Hid (Rk w (W2.setCell ⟨R.rb i, k, none⟩ (.int .u64 (s.wo j))).drew R ⟨s.wo, upd s.rg i (upd (s.rg i) k (s.wo j)), upd s.pl i (pl + 1)⟩ g ⟨4, j, k, nr, ni, orr, oi, n⟩) := (H2.out.put (.inr (.inr ⟨i, hi, rfl⟩)) (H2.out.p.setRg hR i k (s.wo j) hi hk)).drew
  clear H2 c4 f4
  (refine hK.out _ _ ⟨H3.out.p.t1 i hi, H3.out.p.p0, H3.out.bx 1 _ rfl, H3.out.bx 2 _ rfl, H3.out.p.ce j hj⟩ (fun hHeld => ?_); clear hK K; try simp only [Act.put, List.setIfInBounds_toArray, List.set_cons_zero, List.set_cons_succ])
  refine wpAnyH_done (by kernel_rfl) ?_ _
  generalize (W2.setCell ⟨R.rb i, k, none⟩ (.int .u64 (s.wo j))).drew = W9 at *
  go_wp2_with fail
  (refine wp_region_held_drew (S := (fun W => W.cell? ⟨R.bk, 0, none⟩ = some (.slice (some ⟨R.cb, 0, none⟩) R.wd R.cc) ∧ W.cell? ⟨g, 1, none⟩ = some (.int .i64 j))) (by kernel_rfl) ⟨H3.out.p.p0, H3.out.bx 1 _ rfl⟩ (fun hHeld => ?_); simp only [List.size_toArray, List.length_cons, List.length_nil, Nat.reduceAdd, Array.replicate_succ, Array.replicate_zero, List.push_toArray, List.append_toArray, List.nil_append, List.cons_append])
  refine rgT 0 (h := ?_)
  refine rgT 1 (h := ?_)
  refine rgT 2 (h := ?_)
  refine rgT 3 (h := ?_)
  refine rgT 4 (h := ?_)
  refine rgT 5 (h := ?_)
  refine rgT 6 (h := ?_)
  refine rgT 7 (h := ?_)
  refine rgT 8 (h := ?_)
  refine rgT 9 (h := ?_)
  refine rgT 10 (h := ?_)
  refine rgT 11 (h := ?_)
  refine rgT 12 (h := ?_)
  refine rgT 14 (h := ?_)
  have c4 := H3.out.drew.p.ce j hj
  have f4 := H3.out.drew.p.fz R.cb j (.inr (.inl rfl))
  (refine rgS 13 (h := fun K hK => ?_); go_simp)
  (refine hK.out _ _ ⟨H3.out.drew.p.p0, H3.out.drew.bx 1 _ rfl⟩ (fun hHeld => ?_); clear hK K; try simp only [Act.put, List.setIfInBounds_toArray, List.set_cons_zero, List.set_cons_succ])
  refine rgT 15 (h := ?_)
  refine rgT 16 (h := ?_)
  (refine rgS 17 (h := fun K hK => ?_); go_simp)
  have H4 : Hid (Rk w (W9.setCell ⟨R.cb, j, none⟩ (.int .u64 (IntKind.u64.wrap (s.wo j + fr)))).drew R ⟨upd s.wo j ((s.wo j + fr) % 18446744073709551616), upd s.rg i (upd (s.rg i) k (s.wo j)), upd s.pl i (pl + 1)⟩ g ⟨4, j, k, nr, ni, orr, oi, n⟩) := by
    rw [IntKind.wrap_u64]
    exact (H3.out.put (.inr (.inl rfl)) (H3.out.p.setWo hR j _ hj)).drew
  clear H3 c4 f4
  (refine hK.out _ _ ⟨H4.out.p.p0, H4.out.bx 1 _ rfl⟩ (fun hHeld => ?_); clear hK K; try simp only [Act.put, List.setIfInBounds_toArray, List.set_cons_zero, List.set_cons_succ])
  refine wpAnyH_done (by kernel_rfl) ?_ _
  generalize (W9.setCell ⟨R.cb, j, none⟩ (.int .u64 (IntKind.u64.wrap (s.wo j + fr)))).drew = W4 at *
  go_wp2_with fail
  (refine wp_region_held_drew (S := (fun W => W.cell? ⟨R.tb, i * 3 + 2, none⟩ = some (.int .i64 ((pl + 1 : Nat) : Int)) ∧ W.cell? ⟨R.tb, i * 3, none⟩ = some (.slice (some ⟨ib, 0, none⟩) m (R.icap i)))) (by kernel_rfl) ⟨H4.out.p.t2' hi, H4.out.p.t0' hi hia hml⟩ (fun hHeld => ?_); simp only [List.size_toArray, List.length_cons, List.length_nil, Nat.reduceAdd, Array.replicate_succ, Array.replicate_zero, List.push_toArray, List.append_toArray, List.nil_append, List.cons_append])
  refine rgT 0 (h := ?_)
  refine rgT 1 (h := ?_)
  refine rgT 2 (h := ?_)
  refine rgT 3 (h := ?_)
  refine rgT 4 (h := ?_)
  refine rgT 5 (h := ?_)
  refine rgT 6 (h := ?_)
  refine rgT 7 (h := ?_)
  refine rgT 8 (h := ?_)
  refine rgT 9 (h := ?_)
  refine rgT 10 (h := ?_)
  refine wpAnyH_done (by kernel_rfl) ?_ _
  go_wp2
  go_ret
  have e1 : decide ((m : Int) ≤ (((pl + 1 : Nat)) : Int)) = decide (m ≤ pl + 1) := by congr 1; exact propext ⟨fun h => by omega, fun h => by omega⟩
  exact ⟨by simpa using e1, H4.out.drew.p, H4.out.drew.k⟩
theorem rstep_5h (R : Rd) (hR : RdOk R) (w : World) (s : Ls) (h : RP R w s) (i : Nat) (hi : i < R.n) (pl m ib : Nat) (c r nr ni orr oi n : Int) (hia : R.ia i = some ⟨ib, 0, none⟩) (hml : (R.ins i).length = m) (h8 : In8 w ib pl 5 c r nr ni orr oi n) (hpl : pl < m) (hm : m ≤ 1000) (hps : s.pl i = pl) (r0 : 0 ≤ r) (r1 : r < 4) (hv : nr ≤ 3) (n0 : 1 ≤ n) (n1 : n ≤ 10) (hq : s.rg i r.toNat = valP (s.rg i) nr ni) (pp : Nat) (hpp : Hid (pp = min (pl + (1 + n.toNat)) m)) :
    Calls Tryz.prog 69 #[.pointer (some ⟨R.bk, 0, none⟩), .int .i64 (i : Int)] w fun e w' => e = .returned (.bool (decide (m ≤ pp))) ∧ RP R w' ⟨s.wo, s.rg, upd s.pl i (pp)⟩ ∧ Keeps (fRw R) w w' := by
  obtain ⟨k, rfl⟩ : ∃ k : Nat, r = (k : Int) := ⟨r.toNat, by omega⟩
  have hk : k < 4 := by omega
  have ek : ((k : Int)).toNat = k := by omega
  rw [ek] at hq
  have hr0 : (0 : Int) ≤ (k : Int) := Int.natCast_nonneg _
  have hr1 : (k : Int) < 4 := by omega
  obtain ⟨fr, hfr⟩ : ∃ x, x = valP (s.rg i) nr ni := ⟨_, rfl⟩
  rw [← hfr] at hq
  have Hfr : Hid (fr = valP (s.rg i) nr ni) := hfr
  clear hfr
  have p1 := h.p1
  have i0 : (0 : Int) ≤ (i : Int) := Int.natCast_nonneg _
  have i1 : (i : Int) < (R.n : Int) := by omega
  have hp0 : (0 : Int) ≤ (pl : Int) := Int.natCast_nonneg _
  have hp1 : (pl : Int) < (m : Int) := by omega
  have hlt : ¬ (m : Int) ≤ (pl : Int) := by omega
  have ht2 := h.t2 i hi
  rw [hps] at ht2
  have ht0 := h.t0' hi hia hml
  have H : Hid (RP R w s ∧ w.cell? ⟨R.tb, i * 3 + 2, none⟩ = some (.int .i64 (pl : Int)) ∧ w.cell? ⟨R.tb, i * 3, none⟩ = some (.slice (some ⟨ib, 0, none⟩) m (R.icap i))) := ⟨h, ht2, ht0⟩
  have HA : Hid (∀ W, Keeps (fun _ => False) w W → W.cell? ⟨R.tb, i * 3 + 2, none⟩ = some (.int .i64 (pl : Int)) ∧ W.cell? ⟨R.tb, i * 3, none⟩ = some (.slice (some ⟨ib, 0, none⟩) m (R.icap i)) ∧ W.cell? ⟨ib, pl * 8, none⟩ = some (.int .i64 5) ∧ W.cell? ⟨ib, pl * 8 + 1, none⟩ = some (.int .i64 c) ∧ W.cell? ⟨ib, pl * 8 + 2, none⟩ = some (.int .i64 k) ∧ W.cell? ⟨ib, pl * 8 + 3, none⟩ = some (.int .i64 nr) ∧ W.cell? ⟨ib, pl * 8 + 4, none⟩ = some (.int .u64 ni) ∧ W.cell? ⟨ib, pl * 8 + 5, none⟩ = some (.int .i64 orr) ∧ W.cell? ⟨ib, pl * 8 + 6, none⟩ = some (.int .u64 oi) ∧ W.cell? ⟨ib, pl * 8 + 7, none⟩ = some (.int .i64 n)) := fun W k => by
    have q := h8.keeps k (fun e => e)
    exact ⟨((k.cell (p := ⟨R.tb, i * 3 + 2, none⟩) (h.lt _ (.inl (.inl rfl))) (fun e => e))).trans ht2, ((k.cell (p := ⟨R.tb, i * 3, none⟩) (h.lt _ (.inl (.inl rfl))) (fun e => e))).trans ht0, q.c0, q.c1, q.c2, q.c3, q.c4, q.c5, q.c6, q.c7⟩
  have HS : Hid (Rk w (w.alloc (.cells (iV ⟨5, c, k, nr, ni, orr, oi, n⟩) 106)).drew.drew R s w.heap.size ⟨5, c, k, nr, ni, orr, oi, n⟩) := (Rk.start _ h).drew.drew
  clear h ht2 ht0 h8
  go_enter Tryz.func69, Tryz.ntmps69
  go_wp2_with fail
  (refine wp_region_held_drew (S := (fun W => W.cell? ⟨R.tb, i * 3 + 2, none⟩ = some (.int .i64 (pl : Int)) ∧ W.cell? ⟨R.tb, i * 3, none⟩ = some (.slice (some ⟨ib, 0, none⟩) m (R.icap i)))) (by kernel_rfl) ⟨H.out.2.1, H.out.2.2⟩ (fun hHeld => ?_); simp only [List.size_toArray, List.length_cons, List.length_nil, Nat.reduceAdd, Array.replicate_succ, Array.replicate_zero, List.push_toArray, List.append_toArray, List.nil_append, List.cons_append])
  refine rgT 0 (h := ?_)
  refine rgT 1 (h := ?_)
  refine rgT 2 (h := ?_)
  refine rgT 3 (h := ?_)
  refine rgT 4 (h := ?_)
  refine rgT 5 (h := ?_)
  refine rgT 6 (h := ?_)
  refine rgT 7 (h := ?_)
  refine rgT 8 (h := ?_)
  refine rgT 9 (h := ?_)
  refine wpAnyH_done (by kernel_rfl) ?_ _
  go_wp2_with fail
  (refine wp_region_held_drew (S := (fun W => W.cell? ⟨R.tb, i * 3 + 2, none⟩ = some (.int .i64 (pl : Int)) ∧ W.cell? ⟨R.tb, i * 3, none⟩ = some (.slice (some ⟨ib, 0, none⟩) m (R.icap i)) ∧ W.cell? ⟨ib, pl * 8, none⟩ = some (.int .i64 5) ∧ W.cell? ⟨ib, pl * 8 + 1, none⟩ = some (.int .i64 c) ∧ W.cell? ⟨ib, pl * 8 + 2, none⟩ = some (.int .i64 k) ∧ W.cell? ⟨ib, pl * 8 + 3, none⟩ = some (.int .i64 nr) ∧ W.cell? ⟨ib, pl * 8 + 4, none⟩ = some (.int .u64 ni) ∧ W.cell? ⟨ib, pl * 8 + 5, none⟩ = some (.int .i64 orr) ∧ W.cell? ⟨ib, pl * 8 + 6, none⟩ = some (.int .u64 oi) ∧ W.cell? ⟨ib, pl * 8 + 7, none⟩ = some (.int .i64 n))) (by kernel_rfl) (HA.out _ (Keeps.refl _ _).drew.drew) (fun hHeld => ?_); simp only [List.size_toArray, List.length_cons, List.length_nil, Nat.reduceAdd, Array.replicate_succ, Array.replicate_zero, List.push_toArray, List.append_toArray, List.nil_append, List.cons_append])
  refine rgT 0 (h := ?_)
  refine rgT 1 (h := ?_)
  refine rgT 2 (h := ?_)
  refine rgT 3 (h := ?_)
  refine rgT 4 (h := ?_)
  refine rgT 5 (h := ?_)
  refine rgT 6 (h := ?_)
  refine rgT 7 (h := ?_)
  refine rgT 8 (h := ?_)
  refine rgT 9 (h := ?_)
  (refine rgS 10 (h := fun K hK => ?_); go_simp)
  (refine hK.out _ _ (HA.out _ ((Keeps.refl _ _).alloc _).drew.drew) (fun hHeld => ?_); clear hK K; try simp only [Act.put, List.setIfInBounds_toArray, List.set_cons_zero, List.set_cons_succ])
  (refine rgS 11 (h := fun K hK => ?_); go_simp)
  (refine hK.out _ _ (HA.out _ ((Keeps.refl _ _).alloc _).drew.drew) (fun hHeld => ?_); clear hK K; try simp only [Act.put, List.setIfInBounds_toArray, List.set_cons_zero, List.set_cons_succ])
  refine wpAnyH_done (by kernel_rfl) ?_ _
  clear H HA p1 hlt hp0 hp1
  change Hid (Rk w (w.alloc (.cells #[.int .i64 5, .int .i64 c, .int .i64 k, .int .i64 nr, .int .u64 ni, .int .i64 orr, .int .u64 oi, .int .i64 n] 106)).drew.drew R s w.heap.size ⟨5, c, k, nr, ni, orr, oi, n⟩) at HS
  generalize (w.alloc (.cells #[.int .i64 5, .int .i64 c, .int .i64 k, .int .i64 nr, .int .u64 ni, .int .i64 orr, .int .u64 oi, .int .i64 n] 106)).drew.drew = W0 at *
  generalize w.heap.size = g at *
  have t2 := HS.out.p.t2 i hi
  rw [hps] at t2
  have f2 := HS.out.p.fz R.tb (i * 3 + 2) (.inl rfl)
  have b0 := HS.out.bx 0 _ rfl
  have hw1 : (pl : Int) + 1 = ((pl + 1 : Nat) : Int) := by omega
  have H1 : Hid (Rk w (W0.setCell ⟨R.tb, i * 3 + 2, none⟩ (.int .i64 ((pl : Int) + 1))) R ⟨s.wo, s.rg, upd s.pl i (pl + 1)⟩ g ⟨5, c, k, nr, ni, orr, oi, n⟩) := by
    rw [hw1]
    exact HS.out.put (.inl rfl) (HS.out.p.setPl hR i (pl + 1) hi)
  clear hw1
  have nb : (⟨R.tb, i * 3 + 2, none⟩ : Addr) ≠ ⟨g, 0, none⟩ := fun e => HS.out.ng (.inl (.inl (congrArg Addr.block e).symm))
  have b1 := H1.out.bx 0 _ rfl
  go_wp2_with fail
  clear t2 f2 b0 nb b1 HS
  generalize W0.setCell ⟨R.tb, i * 3 + 2, none⟩ (.int .i64 ((pl : Int) + 1)) = W1 at *
  (refine wp_region_held_drew (S := (fun W => W.cell? ⟨g, 3, none⟩ = some (.int .i64 nr) ∧ W.cell? ⟨g, 4, none⟩ = some (.int .u64 ni) ∧ W.cell? ⟨R.tb, i * 3 + 1, none⟩ = some (.slice (some ⟨R.rb i, 0, none⟩) 4 (4 + R.rk i)))) (by kernel_rfl) ⟨H1.out.bx 3 _ rfl, H1.out.bx 4 _ rfl, H1.out.p.t1 i hi⟩ (fun hHeld => ?_); simp only [List.size_toArray, List.length_cons, List.length_nil, Nat.reduceAdd, Array.replicate_succ, Array.replicate_zero, List.push_toArray, List.append_toArray, List.nil_append, List.cons_append])
  refine rgT 0 (h := ?_)
  refine rgT 1 (h := ?_)
  refine rgT 2 (h := ?_)
  refine rgT 3 (h := ?_)
  refine rgT 4 (h := ?_)
  refine rgT 5 (h := ?_)
  (refine rgS 6 (h := fun K hK => ?_); go_simp)
  refine (rvalue_any W1.drew R ⟨s.wo, s.rg, upd s.pl i (pl + 1)⟩ H1.out.drew.p i hi nr ni hv).mono ?_
  rintro e W2 ⟨he, k2⟩
  have he' : e = .returned (.int .u64 fr) := by rw [Hfr.out]; exact he
  subst he'
  have H2 : Hid (Rk w W2 R ⟨s.wo, s.rg, upd s.pl i (pl + 1)⟩ g ⟨5, c, k, nr, ni, orr, oi, n⟩) := H1.out.drew.still k2
  clear H1 k2 he
  (refine hK.out _ _ ⟨H2.out.bx 3 _ rfl, H2.out.bx 4 _ rfl, H2.out.p.t1 i hi⟩ (fun hHeld => ?_); clear hK K; try simp only [Act.put, List.setIfInBounds_toArray, List.set_cons_zero, List.set_cons_succ])
  refine rgT 7 (h := ?_)
  refine wpAnyH_done (by kernel_rfl) ?_ _
  have q0 := H2.out.bx 0 _ rfl
  go_wp2_with fail
  clear q0
  (refine wp_region_held_drew (S := (fun W => W.cell? ⟨R.tb, i * 3 + 1, none⟩ = some (.slice (some ⟨R.rb i, 0, none⟩) 4 (4 + R.rk i)) ∧ W.cell? ⟨g, 2, none⟩ = some (.int .i64 k) ∧ W.cell? ⟨R.rb i, k, none⟩ = some (.int .u64 (s.rg i k)))) (by kernel_rfl) ⟨H2.out.p.t1 i hi, H2.out.bx 2 _ rfl, H2.out.p.rg i k hi hk⟩ (fun hHeld => ?_); simp only [List.size_toArray, List.length_cons, List.length_nil, Nat.reduceAdd, Array.replicate_succ, Array.replicate_zero, List.push_toArray, List.append_toArray, List.nil_append, List.cons_append])
  refine rgT 0 (h := ?_)
  refine rgT 1 (h := ?_)
  refine rgT 2 (h := ?_)
  refine rgT 3 (h := ?_)
  refine rgT 4 (h := ?_)
  refine rgT 5 (h := ?_)
  refine rgT 6 (h := ?_)
  refine rgT 7 (h := ?_)
  refine rgT 8 (h := ?_)
  refine rgT 9 (h := ?_)
  refine wpAnyH_done (by kernel_rfl) ?_ _
  go_wp2_with fail
  have H3 : Hid (Rk w W2.drew R ⟨s.wo, s.rg, upd s.pl i (pl + 1)⟩ g ⟨5, c, k, nr, ni, orr, oi, n⟩) := H2.out.drew
  clear H2
  generalize W2.drew = W3 at *
  (refine wp_region_held_drew (S := (fun W => W.cell? ⟨g, 7, none⟩ = some (.int .i64 n) ∧ W.cell? ⟨R.tb, i * 3, none⟩ = some (.slice (some ⟨ib, 0, none⟩) m (R.icap i)))) (by kernel_rfl) ⟨H3.out.bx 7 _ rfl, H3.out.p.t0' hi hia hml⟩ (fun hHeld => ?_); simp only [List.size_toArray, List.length_cons, List.length_nil, Nat.reduceAdd, Array.replicate_succ, Array.replicate_zero, List.push_toArray, List.append_toArray, List.nil_append, List.cons_append])
  refine rgT 0 (h := ?_)
  refine rgT 1 (h := ?_)
  refine rgT 2 (h := ?_)
  refine rgT 3 (h := ?_)
  refine rgT 5 (h := ?_)
  refine rgT 6 (h := ?_)
  refine rgT 8 (h := ?_)
  refine rgT 9 (h := ?_)
  refine rgT 10 (h := ?_)
  refine rgT 11 (h := ?_)
  refine rgT 12 (h := ?_)
  have c4 := H3.out.drew.p.t2' hi
  have f4 := H3.out.drew.p.fz R.tb (i * 3 + 2) (.inl rfl)
  (refine rgS 4 (h := fun K hK => ?_); go_simp)
  (refine hK.out _ _ ⟨H3.out.drew.bx 7 _ rfl, H3.out.drew.p.t0' hi hia hml⟩ (fun hHeld => ?_); clear hK K; try simp only [Act.put, List.setIfInBounds_toArray, List.set_cons_zero, List.set_cons_succ])
  refine rgT 7 (h := ?_)
  refine rgT 13 (h := ?_)
  refine rgT 14 (h := ?_)
  refine rgT 15 (h := ?_)
  have hx : (if (m : Int) < IntKind.i64.wrap ((pl : Int) + 1 + n) then (m : Int) else IntKind.i64.wrap ((pl : Int) + 1 + n)) = (pp : Int) := by
    have e := hpp.out
    rw [IntKind.wrap_i64]
    split <;> omega
  have H4 : Hid (Rk w (W3.setCell ⟨R.tb, i * 3 + 2, none⟩ (.int .i64 (if (m : Int) < IntKind.i64.wrap ((pl : Int) + 1 + n) then (m : Int) else IntKind.i64.wrap ((pl : Int) + 1 + n)))).drew R ⟨s.wo, s.rg, upd s.pl i (pp)⟩ g ⟨5, c, k, nr, ni, orr, oi, n⟩) := by
    rw [hx]
    have q := H3.out.p.setPl hR i pp hi
    have eu : upd (upd s.pl i (pl + 1)) i pp = upd s.pl i pp := upd_upd _ _ _ _
    dsimp only at q
    rw [eu] at q
    exact (H3.out.put (.inl rfl) q).drew
  clear hx
  (refine rgS 16 (h := fun K hK => ?_); go_simp)
  clear H3 c4 f4
  (refine hK.out _ _ ⟨H4.out.bx 7 _ rfl, H4.out.p.t0' hi hia hml⟩ (fun hHeld => ?_); clear hK K; try simp only [Act.put, List.setIfInBounds_toArray, List.set_cons_zero, List.set_cons_succ])
  refine wpAnyH_done (by kernel_rfl) ?_ _
  generalize (if (m : Int) < IntKind.i64.wrap ((pl : Int) + 1 + n) then (m : Int) else IntKind.i64.wrap ((pl : Int) + 1 + n)) = mm at *
  generalize (W3.setCell ⟨R.tb, i * 3 + 2, none⟩ (.int .i64 mm)).drew = W5 at *
  go_wp2_with fail
  (refine wp_region_held_drew (S := (fun W => W.cell? ⟨R.tb, i * 3 + 2, none⟩ = some (.int .i64 ((pp : Nat) : Int)) ∧ W.cell? ⟨R.tb, i * 3, none⟩ = some (.slice (some ⟨ib, 0, none⟩) m (R.icap i)))) (by kernel_rfl) ⟨H4.out.p.t2' hi, H4.out.p.t0' hi hia hml⟩ (fun hHeld => ?_); simp only [List.size_toArray, List.length_cons, List.length_nil, Nat.reduceAdd, Array.replicate_succ, Array.replicate_zero, List.push_toArray, List.append_toArray, List.nil_append, List.cons_append])
  refine rgT 0 (h := ?_)
  refine rgT 1 (h := ?_)
  refine rgT 2 (h := ?_)
  refine rgT 3 (h := ?_)
  refine rgT 4 (h := ?_)
  refine rgT 5 (h := ?_)
  refine rgT 6 (h := ?_)
  refine rgT 7 (h := ?_)
  refine rgT 8 (h := ?_)
  refine rgT 9 (h := ?_)
  refine rgT 10 (h := ?_)
  refine wpAnyH_done (by kernel_rfl) ?_ _
  go_wp2
  go_ret
  have e1 : decide ((m : Int) ≤ (((pp : Nat)) : Int)) = decide (m ≤ pp) := by congr 1; exact propext ⟨fun h => by omega, fun h => by omega⟩
  exact ⟨by simp, H4.out.drew.p, H4.out.drew.k⟩
theorem rstep_5m (R : Rd) (hR : RdOk R) (w : World) (s : Ls) (h : RP R w s) (i : Nat) (hi : i < R.n) (pl m ib : Nat) (c r nr ni orr oi n : Int) (hia : R.ia i = some ⟨ib, 0, none⟩) (hml : (R.ins i).length = m) (h8 : In8 w ib pl 5 c r nr ni orr oi n) (hpl : pl < m) (hm : m ≤ 1000) (hps : s.pl i = pl) (r0 : 0 ≤ r) (r1 : r < 4) (hv : nr ≤ 3) (hq : ¬ s.rg i r.toNat = valP (s.rg i) nr ni) :
    Calls Tryz.prog 69 #[.pointer (some ⟨R.bk, 0, none⟩), .int .i64 (i : Int)] w fun e w' => e = .returned (.bool (decide (m ≤ pl + 1))) ∧ RP R w' ⟨s.wo, s.rg, upd s.pl i (pl + 1)⟩ ∧ Keeps (fRw R) w w' := by
  obtain ⟨k, rfl⟩ : ∃ k : Nat, r = (k : Int) := ⟨r.toNat, by omega⟩
  have hk : k < 4 := by omega
  have ek : ((k : Int)).toNat = k := by omega
  rw [ek] at hq
  have hr0 : (0 : Int) ≤ (k : Int) := Int.natCast_nonneg _
  have hr1 : (k : Int) < 4 := by omega
  obtain ⟨fr, hfr⟩ : ∃ x, x = valP (s.rg i) nr ni := ⟨_, rfl⟩
  rw [← hfr] at hq
  have Hfr : Hid (fr = valP (s.rg i) nr ni) := hfr
  clear hfr
  have p1 := h.p1
  have i0 : (0 : Int) ≤ (i : Int) := Int.natCast_nonneg _
  have i1 : (i : Int) < (R.n : Int) := by omega
  have hp0 : (0 : Int) ≤ (pl : Int) := Int.natCast_nonneg _
  have hp1 : (pl : Int) < (m : Int) := by omega
  have hlt : ¬ (m : Int) ≤ (pl : Int) := by omega
  have ht2 := h.t2 i hi
  rw [hps] at ht2
  have ht0 := h.t0' hi hia hml
  have H : Hid (RP R w s ∧ w.cell? ⟨R.tb, i * 3 + 2, none⟩ = some (.int .i64 (pl : Int)) ∧ w.cell? ⟨R.tb, i * 3, none⟩ = some (.slice (some ⟨ib, 0, none⟩) m (R.icap i))) := ⟨h, ht2, ht0⟩
  have HA : Hid (∀ W, Keeps (fun _ => False) w W → W.cell? ⟨R.tb, i * 3 + 2, none⟩ = some (.int .i64 (pl : Int)) ∧ W.cell? ⟨R.tb, i * 3, none⟩ = some (.slice (some ⟨ib, 0, none⟩) m (R.icap i)) ∧ W.cell? ⟨ib, pl * 8, none⟩ = some (.int .i64 5) ∧ W.cell? ⟨ib, pl * 8 + 1, none⟩ = some (.int .i64 c) ∧ W.cell? ⟨ib, pl * 8 + 2, none⟩ = some (.int .i64 k) ∧ W.cell? ⟨ib, pl * 8 + 3, none⟩ = some (.int .i64 nr) ∧ W.cell? ⟨ib, pl * 8 + 4, none⟩ = some (.int .u64 ni) ∧ W.cell? ⟨ib, pl * 8 + 5, none⟩ = some (.int .i64 orr) ∧ W.cell? ⟨ib, pl * 8 + 6, none⟩ = some (.int .u64 oi) ∧ W.cell? ⟨ib, pl * 8 + 7, none⟩ = some (.int .i64 n)) := fun W k => by
    have q := h8.keeps k (fun e => e)
    exact ⟨((k.cell (p := ⟨R.tb, i * 3 + 2, none⟩) (h.lt _ (.inl (.inl rfl))) (fun e => e))).trans ht2, ((k.cell (p := ⟨R.tb, i * 3, none⟩) (h.lt _ (.inl (.inl rfl))) (fun e => e))).trans ht0, q.c0, q.c1, q.c2, q.c3, q.c4, q.c5, q.c6, q.c7⟩
  have HS : Hid (Rk w (w.alloc (.cells (iV ⟨5, c, k, nr, ni, orr, oi, n⟩) 106)).drew.drew R s w.heap.size ⟨5, c, k, nr, ni, orr, oi, n⟩) := (Rk.start _ h).drew.drew
  clear h ht2 ht0 h8
  go_enter Tryz.func69, Tryz.ntmps69
  go_wp2_with fail
  (refine wp_region_held_drew (S := (fun W => W.cell? ⟨R.tb, i * 3 + 2, none⟩ = some (.int .i64 (pl : Int)) ∧ W.cell? ⟨R.tb, i * 3, none⟩ = some (.slice (some ⟨ib, 0, none⟩) m (R.icap i)))) (by kernel_rfl) ⟨H.out.2.1, H.out.2.2⟩ (fun hHeld => ?_); simp only [List.size_toArray, List.length_cons, List.length_nil, Nat.reduceAdd, Array.replicate_succ, Array.replicate_zero, List.push_toArray, List.append_toArray, List.nil_append, List.cons_append])
  refine rgT 0 (h := ?_)
  refine rgT 1 (h := ?_)
  refine rgT 2 (h := ?_)
  refine rgT 3 (h := ?_)
  refine rgT 4 (h := ?_)
  refine rgT 5 (h := ?_)
  refine rgT 6 (h := ?_)
  refine rgT 7 (h := ?_)
  refine rgT 8 (h := ?_)
  refine rgT 9 (h := ?_)
  refine wpAnyH_done (by kernel_rfl) ?_ _
  go_wp2_with fail
  (refine wp_region_held_drew (S := (fun W => W.cell? ⟨R.tb, i * 3 + 2, none⟩ = some (.int .i64 (pl : Int)) ∧ W.cell? ⟨R.tb, i * 3, none⟩ = some (.slice (some ⟨ib, 0, none⟩) m (R.icap i)) ∧ W.cell? ⟨ib, pl * 8, none⟩ = some (.int .i64 5) ∧ W.cell? ⟨ib, pl * 8 + 1, none⟩ = some (.int .i64 c) ∧ W.cell? ⟨ib, pl * 8 + 2, none⟩ = some (.int .i64 k) ∧ W.cell? ⟨ib, pl * 8 + 3, none⟩ = some (.int .i64 nr) ∧ W.cell? ⟨ib, pl * 8 + 4, none⟩ = some (.int .u64 ni) ∧ W.cell? ⟨ib, pl * 8 + 5, none⟩ = some (.int .i64 orr) ∧ W.cell? ⟨ib, pl * 8 + 6, none⟩ = some (.int .u64 oi) ∧ W.cell? ⟨ib, pl * 8 + 7, none⟩ = some (.int .i64 n))) (by kernel_rfl) (HA.out _ (Keeps.refl _ _).drew.drew) (fun hHeld => ?_); simp only [List.size_toArray, List.length_cons, List.length_nil, Nat.reduceAdd, Array.replicate_succ, Array.replicate_zero, List.push_toArray, List.append_toArray, List.nil_append, List.cons_append])
  refine rgT 0 (h := ?_)
  refine rgT 1 (h := ?_)
  refine rgT 2 (h := ?_)
  refine rgT 3 (h := ?_)
  refine rgT 4 (h := ?_)
  refine rgT 5 (h := ?_)
  refine rgT 6 (h := ?_)
  refine rgT 7 (h := ?_)
  refine rgT 8 (h := ?_)
  refine rgT 9 (h := ?_)
  (refine rgS 10 (h := fun K hK => ?_); go_simp)
  (refine hK.out _ _ (HA.out _ ((Keeps.refl _ _).alloc _).drew.drew) (fun hHeld => ?_); clear hK K; try simp only [Act.put, List.setIfInBounds_toArray, List.set_cons_zero, List.set_cons_succ])
  (refine rgS 11 (h := fun K hK => ?_); go_simp)
  (refine hK.out _ _ (HA.out _ ((Keeps.refl _ _).alloc _).drew.drew) (fun hHeld => ?_); clear hK K; try simp only [Act.put, List.setIfInBounds_toArray, List.set_cons_zero, List.set_cons_succ])
  refine wpAnyH_done (by kernel_rfl) ?_ _
  clear H HA p1 hlt hp0 hp1
  change Hid (Rk w (w.alloc (.cells #[.int .i64 5, .int .i64 c, .int .i64 k, .int .i64 nr, .int .u64 ni, .int .i64 orr, .int .u64 oi, .int .i64 n] 106)).drew.drew R s w.heap.size ⟨5, c, k, nr, ni, orr, oi, n⟩) at HS
  generalize (w.alloc (.cells #[.int .i64 5, .int .i64 c, .int .i64 k, .int .i64 nr, .int .u64 ni, .int .i64 orr, .int .u64 oi, .int .i64 n] 106)).drew.drew = W0 at *
  generalize w.heap.size = g at *
  have t2 := HS.out.p.t2 i hi
  rw [hps] at t2
  have f2 := HS.out.p.fz R.tb (i * 3 + 2) (.inl rfl)
  have b0 := HS.out.bx 0 _ rfl
  have hw1 : (pl : Int) + 1 = ((pl + 1 : Nat) : Int) := by omega
  have H1 : Hid (Rk w (W0.setCell ⟨R.tb, i * 3 + 2, none⟩ (.int .i64 ((pl : Int) + 1))) R ⟨s.wo, s.rg, upd s.pl i (pl + 1)⟩ g ⟨5, c, k, nr, ni, orr, oi, n⟩) := by
    rw [hw1]
    exact HS.out.put (.inl rfl) (HS.out.p.setPl hR i (pl + 1) hi)
  clear hw1
  have nb : (⟨R.tb, i * 3 + 2, none⟩ : Addr) ≠ ⟨g, 0, none⟩ := fun e => HS.out.ng (.inl (.inl (congrArg Addr.block e).symm))
  have b1 := H1.out.bx 0 _ rfl
  go_wp2_with fail
  clear t2 f2 b0 nb b1 HS
  generalize W0.setCell ⟨R.tb, i * 3 + 2, none⟩ (.int .i64 ((pl : Int) + 1)) = W1 at *
  (refine wp_region_held_drew (S := (fun W => W.cell? ⟨g, 3, none⟩ = some (.int .i64 nr) ∧ W.cell? ⟨g, 4, none⟩ = some (.int .u64 ni) ∧ W.cell? ⟨R.tb, i * 3 + 1, none⟩ = some (.slice (some ⟨R.rb i, 0, none⟩) 4 (4 + R.rk i)))) (by kernel_rfl) ⟨H1.out.bx 3 _ rfl, H1.out.bx 4 _ rfl, H1.out.p.t1 i hi⟩ (fun hHeld => ?_); simp only [List.size_toArray, List.length_cons, List.length_nil, Nat.reduceAdd, Array.replicate_succ, Array.replicate_zero, List.push_toArray, List.append_toArray, List.nil_append, List.cons_append])
  refine rgT 0 (h := ?_)
  refine rgT 1 (h := ?_)
  refine rgT 2 (h := ?_)
  refine rgT 3 (h := ?_)
  refine rgT 4 (h := ?_)
  refine rgT 5 (h := ?_)
  (refine rgS 6 (h := fun K hK => ?_); go_simp)
  refine (rvalue_any W1.drew R ⟨s.wo, s.rg, upd s.pl i (pl + 1)⟩ H1.out.drew.p i hi nr ni hv).mono ?_
  rintro e W2 ⟨he, k2⟩
  have he' : e = .returned (.int .u64 fr) := by rw [Hfr.out]; exact he
  subst he'
  have H2 : Hid (Rk w W2 R ⟨s.wo, s.rg, upd s.pl i (pl + 1)⟩ g ⟨5, c, k, nr, ni, orr, oi, n⟩) := H1.out.drew.still k2
  clear H1 k2 he
  (refine hK.out _ _ ⟨H2.out.bx 3 _ rfl, H2.out.bx 4 _ rfl, H2.out.p.t1 i hi⟩ (fun hHeld => ?_); clear hK K; try simp only [Act.put, List.setIfInBounds_toArray, List.set_cons_zero, List.set_cons_succ])
  refine rgT 7 (h := ?_)
  refine wpAnyH_done (by kernel_rfl) ?_ _
  have q0 := H2.out.bx 0 _ rfl
  go_wp2_with fail
  clear q0
  (refine wp_region_held_drew (S := (fun W => W.cell? ⟨R.tb, i * 3 + 1, none⟩ = some (.slice (some ⟨R.rb i, 0, none⟩) 4 (4 + R.rk i)) ∧ W.cell? ⟨g, 2, none⟩ = some (.int .i64 k) ∧ W.cell? ⟨R.rb i, k, none⟩ = some (.int .u64 (s.rg i k)))) (by kernel_rfl) ⟨H2.out.p.t1 i hi, H2.out.bx 2 _ rfl, H2.out.p.rg i k hi hk⟩ (fun hHeld => ?_); simp only [List.size_toArray, List.length_cons, List.length_nil, Nat.reduceAdd, Array.replicate_succ, Array.replicate_zero, List.push_toArray, List.append_toArray, List.nil_append, List.cons_append])
  refine rgT 0 (h := ?_)
  refine rgT 1 (h := ?_)
  refine rgT 2 (h := ?_)
  refine rgT 3 (h := ?_)
  refine rgT 4 (h := ?_)
  refine rgT 5 (h := ?_)
  refine rgT 6 (h := ?_)
  refine rgT 7 (h := ?_)
  refine rgT 8 (h := ?_)
  refine rgT 9 (h := ?_)
  refine wpAnyH_done (by kernel_rfl) ?_ _
  go_wp2_with fail
  have H3 : Hid (Rk w W2.drew R ⟨s.wo, s.rg, upd s.pl i (pl + 1)⟩ g ⟨5, c, k, nr, ni, orr, oi, n⟩) := H2.out.drew
  clear H2
  generalize W2.drew = W3 at *
  (refine wp_region_held_drew (S := (fun W => W.cell? ⟨R.tb, i * 3 + 2, none⟩ = some (.int .i64 ((pl + 1 : Nat) : Int)) ∧ W.cell? ⟨R.tb, i * 3, none⟩ = some (.slice (some ⟨ib, 0, none⟩) m (R.icap i)))) (by kernel_rfl) ⟨H3.out.p.t2' hi, H3.out.p.t0' hi hia hml⟩ (fun hHeld => ?_); simp only [List.size_toArray, List.length_cons, List.length_nil, Nat.reduceAdd, Array.replicate_succ, Array.replicate_zero, List.push_toArray, List.append_toArray, List.nil_append, List.cons_append])
  refine rgT 0 (h := ?_)
  refine rgT 1 (h := ?_)
  refine rgT 2 (h := ?_)
  refine rgT 3 (h := ?_)
  refine rgT 4 (h := ?_)
  refine rgT 5 (h := ?_)
  refine rgT 6 (h := ?_)
  refine rgT 7 (h := ?_)
  refine rgT 8 (h := ?_)
  refine rgT 9 (h := ?_)
  refine rgT 10 (h := ?_)
  refine wpAnyH_done (by kernel_rfl) ?_ _
  go_wp2
  go_ret
  have e1 : decide ((m : Int) ≤ (((pl + 1 : Nat)) : Int)) = decide (m ≤ pl + 1) := by congr 1; exact propext ⟨fun h => by omega, fun h => by omega⟩
  exact ⟨by simpa using e1, H3.out.drew.p, H3.out.drew.k⟩
end Go.Proofs.YtdpebhdjcgiboaaGreat

namespace Go.Proofs.YtdpebhdjcgiboaaGreat
set_option linter.unusedSimpArgs false
open Go.ChangeShapes Go.WideShapes Go.ChangeAt Go.RowKit Go.MuLone Go.RwLone
set_option linter.unusedVariables false
set_option maxRecDepth 100000
set_option maxHeartbeats 3200000
theorem upd_self {α : Type} (f : Nat → α) (i : Nat) : upd f i (f i) = f := by
  funext k
  by_cases e : k = i
  · subst e; rw [upd_same]
  · rw [upd_other _ _ e]
/-- A step of the document's thread number i: what stI says. -/
theorem rstep_any (R : Rd) (hR : RdOk R) (w : World) (s : Ls) (h : RP R w s) (i : Nat) (hi : i < R.n) :
    Calls Tryz.prog 69 #[.pointer (some ⟨R.bk, 0, none⟩), .int .i64 (i : Int)] w fun e w' => e = .returned (.bool (decide ((R.ins i).length ≤ (stI R.ins s i).pl i))) ∧ RP R w' (stI R.ins s i) ∧ Keeps (fRw R) w w' := by
  by_cases hp : s.pl i < (R.ins i).length
  · have hsd := hR.sd i hi _ (List.getElem_mem hp)
    obtain ⟨ib, hia, h8⟩ := h.ro i hi (s.pl i) hp
    have hm := hR.ln i hi
    have es : stI R.ins s i = ⟨(exP s.wo (s.rg i) (R.ins i)[s.pl i]).1, upd s.rg i (exP s.wo (s.rg i) (R.ins i)[s.pl i]).2.1, upd s.pl i (min (s.pl i + (exP s.wo (s.rg i) (R.ins i)[s.pl i]).2.2) (R.ins i).length)⟩ := by
      unfold stI
      rw [tsP_in hp]
    suffices hS : ∀ S', stI R.ins s i = S' → ∀ X, S'.pl i = X → Calls Tryz.prog 69 #[.pointer (some ⟨R.bk, 0, none⟩), .int .i64 (i : Int)] w fun e w' => e = .returned (.bool (decide ((R.ins i).length ≤ X))) ∧ RP R w' S' ∧ Keeps (fRw R) w w' from hS _ rfl _ rfl
    intro S' hS X hX
    rw [es] at hS
    clear es
    subst hS
    dsimp only at hX
    rw [upd_same] at hX
    subst hX
    generalize (R.ins i)[s.pl i] = x at *
    suffices fin : ∃ E X, exP s.wo (s.rg i) x = E ∧ min (s.pl i + E.2.2) (R.ins i).length = X ∧ Calls Tryz.prog 69 #[.pointer (some ⟨R.bk, 0, none⟩), .int .i64 (i : Int)] w fun e w' => e = .returned (.bool (decide ((R.ins i).length ≤ X))) ∧ RP R w' ⟨E.1, upd s.rg i E.2.1, upd s.pl i X⟩ ∧ Keeps (fRw R) w w' by
      obtain ⟨E, X, rfl, rfl, q⟩ := fin
      exact q
    obtain ⟨op, c, r, nr, ni, orr, oi, n⟩ := x
    have e1 : min (s.pl i + 1) (R.ins i).length = s.pl i + 1 := by omega
    rcases hsd with ⟨e, hc, hr4⟩ | ⟨e, hc, hv⟩ | ⟨e, hc, hr4, ho, hv⟩ | ⟨e, hc, hr4, hv⟩ | ⟨e, hr4, hv, hn1⟩
    · simp only at e hc hr4
      subst e
      have q := rstep_1 R hR w s h i hi (s.pl i) _ ib c r nr ni orr oi n hia rfl h8 hp hm rfl hc.1 hc.2 hr4.1 hr4.2
      have ex : exP s.wo (s.rg i) ⟨1, c, r, nr, ni, orr, oi, n⟩ = (s.wo, upd (s.rg i) r.toNat (s.wo c.toNat), 1) := by simp [exP]
      exact ⟨_, _, ex, e1, q⟩
    · simp only at e hc hv
      subst e
      have q := rstep_2 R hR w s h i hi (s.pl i) _ ib c r nr ni orr oi n hia rfl h8 hp hm rfl hc.1 hc.2 hv.2
      have ex : exP s.wo (s.rg i) ⟨2, c, r, nr, ni, orr, oi, n⟩ = (upd s.wo c.toNat (valP (s.rg i) nr ni), s.rg i, 1) := by simp [exP]
      exact ⟨_, _, ex, e1, by dsimp only; rw [upd_self]; exact q⟩
    · simp only at e hc hr4 ho hv
      subst e
      by_cases hq : s.wo c.toNat = valP (s.rg i) orr oi
      · have q := rstep_3h R hR w s h i hi (s.pl i) _ ib c r nr ni orr oi n hia rfl h8 hp hm rfl hc.1 hc.2 hr4.1 hr4.2 hv.2 ho.2 hq
        have ex : exP s.wo (s.rg i) ⟨3, c, r, nr, ni, orr, oi, n⟩ = (upd s.wo c.toNat (valP (s.rg i) nr ni), upd (s.rg i) r.toNat 1, 1) := by simp [exP, hq]
        exact ⟨_, _, ex, e1, q⟩
      · have q := rstep_3m R hR w s h i hi (s.pl i) _ ib c r nr ni orr oi n hia rfl h8 hp hm rfl hc.1 hc.2 hr4.1 hr4.2 hv.2 ho.2 hq
        have ex : exP s.wo (s.rg i) ⟨3, c, r, nr, ni, orr, oi, n⟩ = (s.wo, upd (s.rg i) r.toNat 0, 1) := by simp [exP, hq]
        exact ⟨_, _, ex, e1, q⟩
    · simp only at e hc hr4 hv
      subst e
      have q := rstep_4 R hR w s h i hi (s.pl i) _ ib c r nr ni orr oi n hia rfl h8 hp hm rfl hc.1 hc.2 hr4.1 hr4.2 hv.2
      have ex : exP s.wo (s.rg i) ⟨4, c, r, nr, ni, orr, oi, n⟩ = (upd s.wo c.toNat ((s.wo c.toNat + valP (s.rg i) nr ni) % 18446744073709551616), upd (s.rg i) r.toNat (s.wo c.toNat), 1) := by simp [exP]
      exact ⟨_, _, ex, e1, q⟩
    · simp only at e hr4 hv hn1
      subst e
      by_cases hq : s.rg i r.toNat = valP (s.rg i) nr ni
      · have q := rstep_5h R hR w s h i hi (s.pl i) _ ib c r nr ni orr oi n hia rfl h8 hp hm rfl hr4.1 hr4.2 hv.2 hn1.1 hn1.2 hq _ rfl
        have ex : exP s.wo (s.rg i) ⟨5, c, r, nr, ni, orr, oi, n⟩ = (s.wo, s.rg i, 1 + n.toNat) := by simp [exP, hq]
        exact ⟨_, _, ex, rfl, by dsimp only; rw [upd_self]; exact q⟩
      · have q := rstep_5m R hR w s h i hi (s.pl i) _ ib c r nr ni orr oi n hia rfl h8 hp hm rfl hr4.1 hr4.2 hv.2 hq
        have ex : exP s.wo (s.rg i) ⟨5, c, r, nr, ni, orr, oi, n⟩ = (s.wo, s.rg i, 1) := by simp [exP, hq]
        exact ⟨_, _, ex, e1, by dsimp only; rw [upd_self]; exact q⟩
  · have es : stI R.ins s i = s := by
      unfold stI
      rw [tsP_out hp]
      dsimp only
      rw [upd_self, upd_self]
    rw [es]
    refine (rstep_done R w s h i hi hR.n4 hp (hR.ln i hi)).mono ?_
    rintro e w' ⟨rfl, k⟩
    exact ⟨by rw [decide_eq_true (by omega)], h.still k, k.mono (fun _ e => e.elim)⟩
end Go.Proofs.YtdpebhdjcgiboaaGreat

namespace Go.Proofs.YtdpebhdjcgiboaaGreat
open Go.ChangeShapes Go.WideShapes Go.ChangeAt Go.RowKit Go.MuLone Go.RwLone
set_option linter.unusedVariables false
set_option maxRecDepth 100000
set_option maxHeartbeats 3200000
/-- A place of the document's queue. -/
def plR (x : Pq) : List Value := [.int .i64 (x.1 : Int), .int .i64 x.2.1, .bool x.2.2]
theorem plR_one (x : Pq) : ∀ u ∈ plR x, u.oneCell' = true := by
  intro u hu
  simp [plR] at hu
  rcases hu with rfl | rfl | rfl <;> rfl
def inR (x : Nat) : List Value := [.int .i64 (x : Int)]
abbrev haR (pt qb n : Nat) (st : Int) (ev en : Value) : Array Value := #[.pointer (some ⟨pt, 0, none⟩), .slice (some ⟨qb, 0, none⟩) n n, .int .i64 st, ev, en]
abbrev OwR (w : World) (v : Value) (xs : List Pq) : Prop := OwG plR 219 3 w 0 v xs
abbrev OwI (w : World) (B : Nat) (v : Value) (xs : List Nat) : Prop := OwG inR 3 1 w B v xs
/-- A harness in its blocks, all of which F holds. -/
structure Rh (w : World) (F : Nat → Prop) (pt : Nat) (hb qb : Nat) (qv : Nat → Value) (ev en : Value) (h : Hp) : Prop where
  hc : w.heap[hb]? = some (.cells (haR pt qb h.q.length h.st ev en) 158)
  qt : ∃ c, w.heap[qb]? = some (.cells c 217)
  qc : ∀ i, i < h.q.length → w.cell? ⟨qb, i, none⟩ = some (qv i)
  ql : ∀ i (hi : i < h.q.length), OwR w (qv i) h.q[i]
  qa : ∀ i j g, i < h.q.length → j < h.q.length → i ≠ j → (qv i).ownBlock = some g → (qv j).ownBlock = some g → False
  oe : OwE w 0 ev h.ev
  ot : OwI w 0 en h.en
  fh : F hb
  fq : F qb
  fr : ∀ i g, i < h.q.length → (qv i).ownBlock = some g → F g
  fe : ∀ g, ev.ownBlock = some g → F g
  fn : ∀ g, en.ownBlock = some g → F g
  lt : ∀ x, F x → x < w.heap.size
  n16 : h.q.length ≤ 16
variable {w : World} {F : Nat → Prop} {pt : Nat} {hb qb : Nat} {qv : Nat → Value} {ev en : Value} {h : Hp}
theorem Rh.keeps {w' : World} {D : Nat → Prop} (m : Rh w F pt hb qb qv ev en h) (k : Keeps D w w') (hD : ∀ x, D x → ¬ F x) : Rh w' F pt hb qb qv ev en h := by
  have hq := m.lt _ m.fq
  refine ⟨(k.block _ (m.lt _ m.fh) (fun e => hD _ e m.fh)).trans m.hc, ?_, fun i hi => (k.cell (p := ⟨qb, i, none⟩) hq (fun e => hD _ e m.fq)).trans (m.qc i hi), fun i hi => owK (m.ql i hi) k (fun g hg e => hD _ e (m.fr i g hi hg)), m.qa, owK m.oe k (fun g hg e => hD _ e (m.fe g hg)), owK m.ot k (fun g hg e => hD _ e (m.fn g hg)), m.fh, m.fq, m.fr, m.fe, m.fn, fun x hx => Nat.lt_of_lt_of_le (m.lt x hx) k.size, m.n16⟩
  obtain ⟨c, hc⟩ := m.qt
  exact ⟨c, (k.block _ hq (fun e => hD _ e m.fq)).trans hc⟩
theorem Rh.still {w' : World} (m : Rh w F pt hb qb qv ev en h) (k : Keeps (fun _ => False) w w') : Rh w' F pt hb qb qv ev en h := m.keeps k (fun _ e => e.elim)
theorem Rh.hq (m : Rh w F pt hb qb qv ev en h) : hb ≠ qb := by
  obtain ⟨c, hc⟩ := m.qt
  exact neT m.hc hc (by decide)
theorem Rh.rows (m : Rh w F pt hb qb qv ev en h) (i : Nat) (hi : i < h.q.length) (g : Nat) (hg : (qv i).ownBlock = some g) : g ≠ hb ∧ g ≠ qb ∧ ev.ownBlock ≠ some g ∧ en.ownBlock ≠ some g := by
  obtain ⟨c, hc⟩ := blk (m.ql i hi) hg
  obtain ⟨d, hd⟩ := m.qt
  refine ⟨neT hc m.hc (by decide), neT hc hd (by decide), fun e => ?_, fun e => ?_⟩
  · obtain ⟨c', hc'⟩ := blk m.oe e
    exact neT hc hc' (by decide) rfl
  · obtain ⟨c', hc'⟩ := blk m.ot e
    exact neT hc hc' (by decide) rfl
theorem Rh.evs (m : Rh w F pt hb qb qv ev en h) (g : Nat) (hg : ev.ownBlock = some g) : g ≠ hb ∧ g ≠ qb ∧ en.ownBlock ≠ some g := by
  obtain ⟨c, hc⟩ := blk m.oe hg
  obtain ⟨d, hd⟩ := m.qt
  refine ⟨neT hc m.hc (by decide), neT hc hd (by decide), fun e => ?_⟩
  obtain ⟨c', hc'⟩ := blk m.ot e
  exact neT hc hc' (by decide) rfl
theorem Rh.ens (m : Rh w F pt hb qb qv ev en h) (g : Nat) (hg : en.ownBlock = some g) : g ≠ hb ∧ g ≠ qb := by
  obtain ⟨c, hc⟩ := blk m.ot hg
  obtain ⟨d, hd⟩ := m.qt
  exact ⟨neT hc m.hc (by decide), neT hc hd (by decide)⟩
/-- The steps are stored. -/
theorem Rh.setSt (m : Rh w F pt hb qb qv ev en h) (x : Int) : Rh (w.setCell ⟨hb, 2, none⟩ (.int .i64 x)) F pt hb qb qv ev en { h with st := x } := by
  have k : Keeps (fun g => g = hb) w (w.setCell ⟨hb, 2, none⟩ (.int .i64 x)) := Keeps.setCell (B := fun g => g = hb) (Keeps.refl _ _) rfl _
  have hq := m.lt _ m.fq
  obtain ⟨c, hc⟩ := m.qt
  exact ⟨heapSet m.hc _, ⟨c, (k.block _ hq (fun e => m.hq e.symm)).trans hc⟩, fun i hi => (k.cell (p := ⟨qb, i, none⟩) hq (fun e => m.hq e.symm)).trans (m.qc i hi), fun i hi => owK (m.ql i hi) k (fun g hg e => (m.rows i hi g hg).1 e), m.qa, owK m.oe k (fun g hg e => (m.evs g hg).1 e), owK m.ot k (fun g hg e => (m.ens g hg).1 e), m.fh, m.fq, m.fr, m.fe, m.fn, fun x hx => by simpa using m.lt x hx, m.n16⟩
/-- An event more. -/
theorem Rh.event {w1 : World} {b mm cap : Nat} {es : List (Int × Int × Int × Int)} (m : Rh w F pt hb qb qv ev en h) (k : Keeps (fun g => ev.ownBlock = some g) w w1) (ho : OwE w1 0 (.slice (some ⟨b, 0, none⟩) mm cap) es) (hb' : ev.ownBlock = some b ∨ w.heap.size ≤ b) (hl : b < w1.heap.size) :
    Rh (w1.setCell ⟨hb, 3, none⟩ (.slice (some ⟨b, 0, none⟩) mm cap)) (fun x => F x ∨ x = b) pt hb qb qv (.slice (some ⟨b, 0, none⟩) mm cap) en { h with ev := es } := by
  have hq := m.lt _ m.fq
  have hh := m.lt _ m.fh
  obtain ⟨c, hc⟩ := m.qt
  have k2 : Keeps (fun g => g = hb) w1 (w1.setCell ⟨hb, 3, none⟩ (.slice (some ⟨b, 0, none⟩) mm cap)) := Keeps.setCell (B := fun g => g = hb) (Keeps.refl _ _) rfl _
  have kk : Keeps (fun g => ev.ownBlock = some g ∨ g = hb) w (w1.setCell ⟨hb, 3, none⟩ (.slice (some ⟨b, 0, none⟩) mm cap)) := (k.mono (fun _ e => .inl e)).trans (k2.mono (fun _ e => .inr e))
  have e1 : w1.heap[hb]? = _ := (k.block hb hh (fun e => (m.evs hb e).1 rfl)).trans m.hc
  have nb : b ≠ hb := by
    rcases hb' with e | e
    · exact (m.evs b e).1
    · omega
  refine ⟨heapSet e1 _, ⟨c, (kk.block _ hq (fun e => e.elim (fun e => (m.evs qb e).2.1 rfl) (fun e => m.hq e.symm))).trans hc⟩, fun i hi => (kk.cell (p := ⟨qb, i, none⟩) hq (fun e => e.elim (fun e => (m.evs qb e).2.1 rfl) (fun e => m.hq e.symm))).trans (m.qc i hi), fun i hi => owK (m.ql i hi) kk (fun g hg e => e.elim (fun e => (m.rows i hi g hg).2.2.1 e) (fun e => (m.rows i hi g hg).1 e)), m.qa, owK ho k2 (fun g hg e => nb ((Option.some.inj hg : b = g).trans e)), owK m.ot kk (fun g hg e => e.elim (fun e => (m.evs g e).2.2 hg) (fun e => (m.ens g hg).1 e)), .inl m.fh, .inl m.fq, fun i g hi hg => .inl (m.fr i g hi hg), fun g hg => .inr (Option.some.inj hg : b = g).symm, fun g hg => .inl (m.fn g hg), fun x hx => ?_, m.n16⟩
  rcases hx with hx | hx
  · have := m.lt x hx
    have := kk.size
    omega
  · rw [hx]; simpa using hl
/-- A machine more that has ended. -/
theorem Rh.ended {w1 : World} {b mm cap : Nat} {es : List Nat} (m : Rh w F pt hb qb qv ev en h) (k : Keeps (fun g => en.ownBlock = some g) w w1) (ho : OwI w1 0 (.slice (some ⟨b, 0, none⟩) mm cap) es) (hb' : en.ownBlock = some b ∨ w.heap.size ≤ b) (hl : b < w1.heap.size) :
    Rh (w1.setCell ⟨hb, 4, none⟩ (.slice (some ⟨b, 0, none⟩) mm cap)) (fun x => F x ∨ x = b) pt hb qb qv ev (.slice (some ⟨b, 0, none⟩) mm cap) { h with en := es } := by
  have hq := m.lt _ m.fq
  have hh := m.lt _ m.fh
  obtain ⟨c, hc⟩ := m.qt
  have k2 : Keeps (fun g => g = hb) w1 (w1.setCell ⟨hb, 4, none⟩ (.slice (some ⟨b, 0, none⟩) mm cap)) := Keeps.setCell (B := fun g => g = hb) (Keeps.refl _ _) rfl _
  have kk : Keeps (fun g => en.ownBlock = some g ∨ g = hb) w (w1.setCell ⟨hb, 4, none⟩ (.slice (some ⟨b, 0, none⟩) mm cap)) := (k.mono (fun _ e => .inl e)).trans (k2.mono (fun _ e => .inr e))
  have e1 : w1.heap[hb]? = _ := (k.block hb hh (fun e => (m.ens hb e).1 rfl)).trans m.hc
  have nb : b ≠ hb := by
    rcases hb' with e | e
    · exact (m.ens b e).1
    · omega
  refine ⟨heapSet e1 _, ⟨c, (kk.block _ hq (fun e => e.elim (fun e => (m.ens qb e).2 rfl) (fun e => m.hq e.symm))).trans hc⟩, fun i hi => (kk.cell (p := ⟨qb, i, none⟩) hq (fun e => e.elim (fun e => (m.ens qb e).2 rfl) (fun e => m.hq e.symm))).trans (m.qc i hi), fun i hi => owK (m.ql i hi) kk (fun g hg e => e.elim (fun e => (m.rows i hi g hg).2.2.2 e) (fun e => (m.rows i hi g hg).1 e)), m.qa, owK m.oe kk (fun g hg e => e.elim (fun e => (m.evs g hg).2.2 e) (fun e => (m.evs g hg).1 e)), owK ho k2 (fun g hg e => nb ((Option.some.inj hg : b = g).trans e)), .inl m.fh, .inl m.fq, fun i g hi hg => .inl (m.fr i g hi hg), fun g hg => .inl (m.fe g hg), fun g hg => .inr (Option.some.inj hg : b = g).symm, fun x hx => ?_, m.n16⟩
  rcases hx with hx | hx
  · have := m.lt x hx
    have := kk.size
    omega
  · rw [hx]; simpa using hl
theorem Rh.head {w : World} {F : Nat → Prop} {pt : Nat} {hb qb : Nat} {qv : Nat → Value} {ev en : Value} {h : Hp} (m : Rh w F pt hb qb qv ev en h) {i : Nat} (hi : i < h.q.length) {x : Pq} {l : List Pq} (hq : h.q[i] = x :: l) :
    ∃ P cap, qv i = .slice (some ⟨P, 0, none⟩) (x :: l).length cap ∧ (qv i).ownBlock = some P ∧ OwR w (.slice (some ⟨P, 0, none⟩) (x :: l).length cap) (x :: l) ∧ w.cell? ⟨P, 0, none⟩ = some (.int .i64 (x.1 : Int)) ∧ w.cell? ⟨P, 1, none⟩ = some (.int .i64 x.2.1) ∧ w.cell? ⟨P, 2, none⟩ = some (.bool x.2.2) ∧ w.frozen? ⟨P, 2, none⟩ = false := by
  have o := m.ql i hi
  rw [hq] at o
  obtain ⟨P, cap, e, _, _⟩ := owG_some o (by simp)
  rw [e] at o
  exact ⟨P, cap, e, by rw [e]; rfl, o, (World.ownsRow.cellAt o 0 (by simp only [List.length_cons]; omega)).trans rfl, (World.ownsRow.cellAt o 1 (by simp only [List.length_cons]; omega)).trans rfl, (World.ownsRow.cellAt o 2 (by simp only [List.length_cons]; omega)).trans rfl, World.ownsRow.frozenAt o 2⟩
theorem Rh.inrow {w w1 : World} {F : Nat → Prop} {pt : Nat} {hb qb : Nat} {qv : Nat → Value} {ev en : Value} {h : Hp} {P i : Nat} {l : List Pq} (m : Rh w F pt hb qb qv ev en h) (hi : i < h.q.length) (hP : (qv i).ownBlock = some P) (k : Keeps (fun g => g = P) w w1) (ho : OwR w1 (qv i) l) :
    Rh w1 F pt hb qb qv ev en { h with q := h.q.set i l } := by
  have hq := m.lt _ m.fq
  have hh := m.lt _ m.fh
  have r := m.rows i hi P hP
  obtain ⟨c, hc⟩ := m.qt
  refine ⟨?_, ⟨_, (k.block qb hq (fun e => r.2.1 e.symm)).trans hc⟩, fun j hj => ?_, fun j hj => ?_, fun j j' g hj hj' hn h1 h2 => ?_, owK m.oe k (fun g hg e => r.2.2.1 (e ▸ hg)), owK m.ot k (fun g hg e => r.2.2.2 (e ▸ hg)), m.fh, m.fq, fun j g hj hg => ?_, m.fe, m.fn, fun x hx => Nat.lt_of_lt_of_le (m.lt x hx) k.size, by simpa using m.n16⟩
  · rw [List.length_set]
    exact (k.block hb hh (fun e => r.1 e.symm)).trans m.hc
  · rw [List.length_set] at hj
    exact (k.cell (p := ⟨qb, j, none⟩) hq (fun e => r.2.1 e.symm)).trans (m.qc j hj)
  · have hj2 : j < h.q.length := by simpa using hj
    by_cases e : j = i
    · subst e
      simp only [List.getElem_set_self]
      exact ho
    · simp only [List.getElem_set_ne (fun e' => e e'.symm)]
      exact owK (m.ql j hj2) k (fun g hg e' => m.qa j i g hj2 hi e hg (e' ▸ hP))
  · rw [List.length_set] at hj hj'
    exact m.qa j j' g hj hj' hn h1 h2
  · rw [List.length_set] at hj
    exact m.fr j g hj hg
theorem Rh.mark {w : World} {F : Nat → Prop} {pt : Nat} {hb qb : Nat} {qv : Nat → Value} {ev en : Value} {h : Hp} {P i cap : Nat} {x : Pq} {l : List Pq} (m : Rh w F pt hb qb qv ev en h) (hi : i < h.q.length) (hv : qv i = .slice (some ⟨P, 0, none⟩) (x :: l).length cap) (ho : OwR w (.slice (some ⟨P, 0, none⟩) (x :: l).length cap) (x :: l)) :
    Rh (w.setCell ⟨P, 2, none⟩ (.bool true)) F pt hb qb qv ev en { h with q := h.q.set i ((x.1, x.2.1, true) :: l) } := by
  have hP : (qv i).ownBlock = some P := by rw [hv]; rfl
  refine m.inrow hi hP (Keeps.setCell (B := fun g => g = P) (Keeps.refl _ _) rfl _) ?_
  rw [hv]
  have h2 := (World.ownsRow.stored ho 2 (.bool true)).1
  exact h2
end Go.Proofs.YtdpebhdjcgiboaaGreat

namespace Go.Proofs.YtdpebhdjcgiboaaGreat
open Go.ChangeShapes Go.WideShapes Go.ChangeAt Go.RowKit Go.MuLone Go.RwLone
set_option linter.unusedVariables false
set_option maxRecDepth 100000
set_option maxHeartbeats 3200000
theorem rhas_any (w : World) (hb n : Nat) (qa : Option Addr) (c : Nat) (x : Int) (h : w.cell? ⟨hb, 1, none⟩ = some (.slice qa n c)) : Calls Tryz.prog 112 #[.pointer (some ⟨hb, 0, none⟩), .int .i64 x] w fun e w' => e = .returned (.bool (decide (0 ≤ x ∧ x < (n : Int)))) ∧ w' = w := by
  by_cases h1 : 0 ≤ x
  · by_cases h2 : x < (n : Int)
    · have hd : decide (0 ≤ x ∧ x < (n : Int)) = true := by simp [h1, h2]
      rw [hd]
      go_enter Tryz.func112, Tryz.ntmps112
      go_wp2
      go_ret
      exact ⟨rfl, rfl⟩
    · have hd : decide (0 ≤ x ∧ x < (n : Int)) = false := by simp [h2]
      rw [hd]
      go_enter Tryz.func112, Tryz.ntmps112
      go_wp2
      go_ret
      exact ⟨rfl, rfl⟩
  · have hd : decide (0 ≤ x ∧ x < (n : Int)) = false := by simp [h1]
    rw [hd]
    go_enter Tryz.func112, Tryz.ntmps112
    go_wp2
    go_ret
    exact ⟨rfl, rfl⟩
theorem rpend_in {w : World} {F : Nat → Prop} {pt : Nat} {hb qb : Nat} {qv : Nat → Value} {ev en : Value} {h : Hp} (m : Rh w F pt hb qb qv ev en h) (i : Nat) (hi : i < h.q.length) : Calls Tryz.prog 70 #[.pointer (some ⟨hb, 0, none⟩), .int .i64 (i : Int)] w fun e w' => e = .returned (.int .i64 ((h.q[i].length : Nat) : Int)) ∧ w' = w := by
  have hq : w.cell? ⟨hb, 1, none⟩ = some (.slice (some ⟨qb, 0, none⟩) h.q.length h.q.length) := (cell?_heap m.hc 1).trans rfl
  obtain ⟨a, cap, e⟩ := (m.ql i hi).form
  have hr := m.qc i hi
  rw [e] at hr
  have h0 : (0 : Int) ≤ (i : Int) := Int.natCast_nonneg _
  have h1 : (i : Int) < (h.q.length : Int) := by omega
  have hd : decide (0 ≤ (i : Int) ∧ (i : Int) < (h.q.length : Int)) = true := by simp [h0, h1]
  clear m e
  generalize h.q[i].length = ln at *
  generalize h.q.length = n at *
  go_enter Tryz.func70, Tryz.ntmps70
  go_wp2_with fail
  refine (rhas_any w hb n _ _ i hq).mono ?_
  rintro e w' ⟨rfl, rfl⟩
  rw [hd]
  clear hd
  go_wp2
  go_ret
  exact ⟨rfl, rfl⟩
theorem rpend_out {w : World} {F : Nat → Prop} {pt : Nat} {hb qb : Nat} {qv : Nat → Value} {ev en : Value} {h : Hp} (m : Rh w F pt hb qb qv ev en h) (x : Int) (hx : ¬ (0 ≤ x ∧ x < (h.q.length : Int))) : Calls Tryz.prog 70 #[.pointer (some ⟨hb, 0, none⟩), .int .i64 x] w fun e w' => e = .returned (.int .i64 0) ∧ w' = w := by
  have hq : w.cell? ⟨hb, 1, none⟩ = some (.slice (some ⟨qb, 0, none⟩) h.q.length h.q.length) := (cell?_heap m.hc 1).trans rfl
  have hd : decide (0 ≤ x ∧ x < (h.q.length : Int)) = false := decide_eq_false hx
  clear m hx
  go_enter Tryz.func70, Tryz.ntmps70
  go_wp2_with fail
  refine (rhas_any w hb _ _ _ x hq).mono ?_
  rintro e w' ⟨rfl, rfl⟩
  rw [hd]
  clear hd
  go_wp2
  go_ret
  exact ⟨rfl, rfl⟩
end Go.Proofs.YtdpebhdjcgiboaaGreat

namespace Go.Proofs.YtdpebhdjcgiboaaGreat
open Go.ChangeShapes Go.WideShapes Go.ChangeAt Go.RowKit Go.MuLone Go.RwLone
set_option linter.unusedVariables false
set_option maxRecDepth 100000
set_option maxHeartbeats 3200000
theorem ridle_any {w : World} {F : Nat → Prop} {pt : Nat} {hb qb : Nat} {qv : Nat → Value} {ev en : Value} {h : Hp} (m : Rh w F pt hb qb qv ev en h) : Calls Tryz.prog 71 #[.pointer (some ⟨hb, 0, none⟩)] w fun e w' => e = .returned (.bool (idleP h)) ∧ w' = w := by
  have HM : Hid (Rh w F pt hb qb qv ev en h) := m
  have ch : w.cell? ⟨hb, 1, none⟩ = some (.slice (some ⟨qb, 0, none⟩) h.q.length h.q.length) := (cell?_heap m.hc 1).trans rfl
  have hn16 := m.n16
  clear m
  go_enter Tryz.func71, Tryz.ntmps71
  go_wp2_with fail
  go_loopw [3] (fun c wr => wr = w ∧ ∃ t : Nat, c = .int .i64 t ∧ t ≤ h.q.length ∧ ∀ k (hk : k < h.q.length), k < t → h.q[k] = []) (fun c _ => h.q.length - (intOf c).toNat)
  case atStart => exact ⟨rfl, 0, rfl, by omega, fun k _ hk => by omega⟩
  case round =>
    obtain ⟨rfl, t, rfl, ht, hall⟩ := hrel
    have HD : Hid (∀ k (hk : k < h.q.length), k < t → h.q[k] = []) := hall
    clear hall
    by_cases h4 : t < h.q.length
    · have cr := HM.out.qc t h4
      obtain ⟨qa, qcap, eqv⟩ := (HM.out.ql t h4).form
      rw [eqv] at cr
      have t0 : (0 : Int) ≤ (t : Int) := Int.natCast_nonneg _
      have t1 : (t : Int) < (h.q.length : Int) := by omega
      clear eqv
      by_cases hd : h.q[t] = []
      · have hl0 : h.q[t].length = 0 := by rw [hd]; rfl
        rw [hl0] at cr
        have HD2 : Hid (h.q[t] = []) := hd
        clear hd hl0
        go_wp2
        go_roundw
        case rel =>
          refine ⟨trivial, t + 1, by go_num, by omega, fun k hk hkt => ?_⟩
          by_cases e : k = t
          · subst e; exact HD2.out
          · exact HD.out k hk (by omega)
        case measure => simp [intOf]; omega
      · have hl1 : (0 : Int) < (h.q[t].length : Int) := by
          have : h.q[t].length ≠ 0 := fun e => hd (List.eq_nil_of_length_eq_zero e)
          omega
        have HE : Hid (idleP h = false) := by
          show _ = _
          unfold idleP
          rw [List.all_eq_false]
          exact ⟨h.q[t], List.getElem_mem h4, by simpa using hd⟩
        clear hd
        generalize h.q[t].length = ln at *
        go_wp2
        go_ret
        rw [HE.out]
        exact ⟨rfl, rfl⟩
    · have HE : Hid (idleP h = true) := by
        show _ = _
        unfold idleP
        rw [List.all_eq_true]
        intro l hl
        obtain ⟨k, hk, rfl⟩ := List.getElem_of_mem hl
        rw [HD.out k hk (by omega)]; rfl
      go_wp2
      go_ret
      rw [HE.out]
      exact ⟨rfl, rfl⟩
/-- In the midst of a step: what has come of the harness and the machines since w. -/
structure Mr (R : Rd) (w wx : World) (F : Nat → Prop) (hb qb : Nat) (F' : Nat → Prop) (qv : Nat → Value) (ev en : Value) (h : Hp) (s : Ls) : Prop where
  m : Rh wx F' R.bk hb qb qv ev en h
  o : RP R wx s
  k : Keeps (fun x => F x ∨ fRw R x) w wx
  f : ∀ y, F' y → F y ∨ w.heap.size ≤ y
  d : ∀ y, F' y → ¬ fR R y
theorem Mr.next {R : Rd} {w wx wy : World} {F : Nat → Prop} {hb qb : Nat} {F' F'' : Nat → Prop} {qv qv' : Nat → Value} {ev en ev' en' : Value} {h h' : Hp} {s : Ls} (a : Mr R w wx F hb qb F' qv ev en h s) (m : Rh wy F'' R.bk hb qb qv' ev' en' h') (k : Keeps F' wx wy) (f : ∀ y, F'' y → F' y ∨ wx.heap.size ≤ y) : Mr R w wy F hb qb F'' qv' ev' en' h' s := by
  have hs := a.k.size
  refine ⟨m, a.o.keeps k a.d, ⟨k.os.trans a.k.os, k.tape.trans a.k.tape, k.output.trans a.k.output, Nat.le_trans hs k.size, fun g hg hn => (k.block g (by omega) (fun e => (a.f g e).elim (fun e => hn (.inl e)) (fun e => by omega))).trans (a.k.block g hg hn)⟩, fun y hy => ?_, fun y hy hM => ?_⟩
  · rcases f y hy with e | e
    · exact a.f y e
    · right; omega
  · rcases f y hy with e | e
    · exact a.d y e hM
    · have := a.o.lt _ hM
      omega
theorem Mr.go {R : Rd} {w wx wy : World} {F : Nat → Prop} {hb qb : Nat} {F' : Nat → Prop} {qv : Nat → Value} {ev en : Value} {h : Hp} {s s' : Ls} (a : Mr R w wx F hb qb F' qv ev en h s) (o : RP R wy s') (k : Keeps (fRw R) wx wy) : Mr R w wy F hb qb F' qv ev en h s' :=
  ⟨a.m.keeps k (fun y hM hy => a.d y hy (.inl hM)), o, a.k.trans (k.mono (fun _ e => .inr e)), a.f, a.d⟩
theorem Mr.start {R : Rd} {w : World} {F : Nat → Prop} {hb qb : Nat} {qv : Nat → Value} {ev en : Value} {h : Hp} {s : Ls} (m : Rh w F R.bk hb qb qv ev en h) (o : RP R w s) (d : ∀ y, F y → ¬ fR R y) : Mr R w w F hb qb F qv ev en h s := ⟨m, o, Keeps.refl _ _, fun _ e => .inl e, d⟩
theorem Mr.still {R : Rd} {w wx wy : World} {F : Nat → Prop} {hb qb : Nat} {F' : Nat → Prop} {qv : Nat → Value} {ev en : Value} {h : Hp} {s : Ls} (a : Mr R w wx F hb qb F' qv ev en h s) (k : Keeps (fun _ => False) wx wy) : Mr R w wy F hb qb F' qv ev en h s := a.go (a.o.still k) (k.mono (fun _ e => e.elim))
end Go.Proofs.YtdpebhdjcgiboaaGreat

namespace Go.Proofs.YtdpebhdjcgiboaaGreat
set_option linter.unusedSimpArgs false
open Go.ChangeShapes Go.WideShapes Go.ChangeAt Go.RowKit Go.MuLone Go.RwLone
set_option linter.unusedVariables false
set_option maxRecDepth 100000
set_option maxHeartbeats 3200000
theorem infoPl1 : (Tryz.prog.info? 219).map (fun i => (i.zero, i.size, i.bytes)) = some (some (.agg #[.int .i64 0, .int .i64 0, .bool false]), 3, 24) := by kernel_rfl
/-- A row lies in a new block from now on. -/
theorem Rh.moved {w w1 : World} {F : Nat → Prop} {pt hb qb : Nat} {qv : Nat → Value} {ev en : Value} {h : Hp} {b i : Nat} {l : List Pq} {v : Value} (m : Rh w F pt hb qb qv ev en h) (hi : i < h.q.length) (k : Keeps (fun _ => False) w w1) (ho : OwR w1 v l) (hv : v.ownBlock = some b) (hb' : w.heap.size ≤ b) (hl : b < w1.heap.size) :
    Rh (w1.setCell ⟨qb, i, none⟩ v) (fun x => F x ∨ x = b) pt hb qb (upd qv i v) ev en { h with q := h.q.set i l } := by
  have hq := m.lt _ m.fq
  have hh := m.lt _ m.fh
  obtain ⟨c, hc⟩ := m.qt
  have k2 : Keeps (fun g => g = qb) w1 (w1.setCell ⟨qb, i, none⟩ v) := Keeps.setCell (B := fun g => g = qb) (Keeps.refl _ _) rfl _
  have kk : Keeps (fun g => g = qb) w (w1.setCell ⟨qb, i, none⟩ v) := (k.mono (fun _ e => e.elim)).trans k2
  have e1 : w1.heap[qb]? = _ := (k.block qb hq (fun e => e)).trans hc
  have ec : ∀ j, w1.cell? ⟨qb, j, none⟩ = w.cell? ⟨qb, j, none⟩ := fun j => k.cell (p := ⟨qb, j, none⟩) hq (fun e => e)
  have lo : ∀ j g, j < h.q.length → (qv j).ownBlock = some g → g < w.heap.size := fun j g hj hg => m.lt _ (m.fr j g hj hg)
  refine ⟨?_, ⟨_, heapSet e1 _⟩, fun j hj => ?_, fun j hj => ?_, fun j j' g hj hj' hn h1 h2 => ?_, owK m.oe kk (fun g hg e => (m.evs g hg).2.1 e), owK m.ot kk (fun g hg e => (m.ens g hg).2 e), .inl m.fh, .inl m.fq, fun j g hj hg => ?_, fun g hg => .inl (m.fe g hg), fun g hg => .inl (m.fn g hg), fun x hx => ?_, by simpa using m.n16⟩
  · rw [List.length_set]
    exact (kk.block hb hh (fun e => m.hq e)).trans m.hc
  · rw [List.length_set] at hj
    by_cases e : j = i
    · subst e; rw [upd_same]
      exact World.cell?_setCell_same _ _ _ ((ec j).trans (m.qc j hj))
    · rw [upd_other _ _ e, World.cell?_setCell_other _ _ _ _ (fun e' => e (congrArg Addr.off e').symm), ec]
      exact m.qc j hj
  · have hj2 : j < h.q.length := by simpa using hj
    by_cases e : j = i
    · subst e
      simp only [List.getElem_set_self]
      rw [upd_same]
      refine owK ho k2 (fun g hg e => ?_)
      rw [hv] at hg
      have := Option.some.inj hg
      omega
    · simp only [List.getElem_set_ne (fun e' => e e'.symm)]
      rw [upd_other _ _ e]
      exact owK (m.ql j hj2) kk (fun g hg e' => (m.rows j hj2 g hg).2.1 e')
  · rw [List.length_set] at hj hj'
    by_cases e : j = i
    · subst e
      rw [upd_same, hv] at h1
      rw [upd_other _ _ (fun e => hn e.symm)] at h2
      have := lo j' g hj' h2
      have := Option.some.inj h1
      omega
    · rw [upd_other _ _ e] at h1
      by_cases e' : j' = i
      · subst e'
        rw [upd_same, hv] at h2
        have := lo j g hj h1
        have := Option.some.inj h2
        omega
      · rw [upd_other _ _ e'] at h2
        exact m.qa j j' g hj hj' hn h1 h2
  · rw [List.length_set] at hj
    by_cases e : j = i
    · subst e
      rw [upd_same, hv] at hg
      exact .inr (Option.some.inj hg).symm
    · rw [upd_other _ _ e] at hg
      exact .inl (m.fr j g hj hg)
  · rcases hx with hx | hx
    · have := m.lt x hx
      have := kk.size
      omega
    · rw [hx]; simpa using hl
/-- The rest of a row, copied into a new block. -/
theorem pop_wp {o : Oper} {a : Act} {K : Act → World → Prop} {Q : Exit → Act → World → Prop} (W7 : World) (P cap : Nat) (x : Pq) (l : List Pq) (h : OwR W7 (.slice (some ⟨P, 0, none⟩) (x :: l).length cap) (x :: l)) (hll : l.length ≤ 100) (s y : Operand)
    (ho : o.op = .call { callee := .builtin .append, args := #[s, y], argTypes := #[217, 217] })
    (hs : a.eval s = .slice (some ⟨W7.heap.size, 0, none⟩) 0 0) (hx : a.eval y = .slice (if cap = 1 then some ⟨P, 0, none⟩ else some ⟨P, 3, none⟩) l.length (cap - 1))
    (hK : ∀ b c w', OwR w' (.slice (some ⟨b, 0, none⟩) l.length c) l → Keeps (fun _ => False) W7 w' → W7.heap.size ≤ b → b < w'.heap.size → K (a.put o.dst (.slice (some ⟨b, 0, none⟩) l.length c)) w') :
    o.wp Tryz.prog a (W7.alloc (.cells #[] 219)).drew K Q := by
  obtain ⟨-, hcap, -, -, -, -⟩ := owG_cap h
  have hcap' : l.length + 1 ≤ cap := hcap
  obtain ⟨i0, hi, hz0, hz1, hz2⟩ := info_parts infoPl1
  obtain ⟨ad, had⟩ : ∃ ad, (if cap = 1 then some (⟨P, 0, none⟩ : Addr) else some ⟨P, 3, none⟩) = some ad := by split <;> exact ⟨_, rfl⟩
  have hlP : P < W7.heap.size := (World.ownsRow.lt h P rfl).2
  have hown : (W7.alloc (.cells #[] 219)).drew.ownsRow 0 219 3 (.slice (some ⟨W7.heap.size, 0, none⟩) 0 0) 0 [] := (World.ownsRow_made W7 #[] 0 (Nat.zero_le _) (by decide) rfl).drew
  have hfl : (l.flatMap plR).length = l.length * 3 := flat_len plR 3 (fun _ => rfl) l
  obtain ⟨v', w', hr, h2, h3, -, h5⟩ := run_append_own_at (P := Tryz.prog) (W7.alloc (.cells #[] 219)).drew 0 217 o.type 219 i0 _ 3 24 Tryz.underlying217 hi hz0 hz1 hz2 rfl (by decide) _ 0 [] hown ad l.length (cap - 1) (l.flatMap plR) hfl (fun j u hj => by
      have hlt := (List.getElem?_eq_some_iff.1 hj).1
      rw [hfl] at hlt
      have hc1 : ¬ cap = 1 := by omega
      rw [if_neg hc1] at had
      obtain rfl := Option.some.inj had
      rw [addr_add]
      show (W7.alloc (.cells #[] 219)).cell? ⟨P, 3 + j, none⟩ = some u
      rw [World.cell?_of_block (w := W7) (Below.heap_alloc W7 _ P hlP), World.ownsRow.cellAt h (3 + j) (by rw [List.length_cons]; omega), List.flatMap_cons, List.getElem?_append_right (by show 3 ≤ 3 + j; omega), show 3 + j - (plR x).length = j from by show 3 + j - 3 = j; omega]
      exact hj) (fun u hu => by
      obtain ⟨z, _, hz⟩ := List.mem_flatMap.1 hu
      exact plR_one z u hz) (by unfold maxLen; omega) (by omega) (Nat.zero_le _)
  have hob : ∃ b, v'.ownBlock = some b ∧ W7.heap.size ≤ b := by
    rcases h5 with e | e
    · exact ⟨W7.heap.size, e, Nat.le_refl _⟩
    · refine ⟨_, e, ?_⟩
      show W7.heap.size ≤ (W7.alloc _).heap.size
      rw [szAl]; omega
  obtain ⟨b, hb1, hb2⟩ := hob
  have hlt := (h2.lt b hb1).2
  rw [Nat.zero_add, List.nil_append] at h2
  have h22 := h2
  rcases h2.2 with ⟨rfl, _⟩ | ⟨g, c, cur, rfl, _⟩
  · cases hb1
  · obtain rfl : g = b := Option.some.inj hb1
    have kk : Keeps (fun _ => False) W7 w' := ⟨h3.os, h3.tape, h3.output, by have := h3.size; have e : (W7.alloc (.cells #[] 219)).drew.heap.size = W7.heap.size + 1 := szAl _ _; omega, fun k hk _ => (h3.block k (by have e : (W7.alloc (.cells #[] 219)).drew.heap.size = W7.heap.size + 1 := szAl _ _; omega) (fun e => by have e2 : k = W7.heap.size := Option.some.inj e; omega)).trans (Below.heap_alloc W7 _ k hk)⟩
    have hk := hK g c w' h22 kk hb2 hlt
    rw [had] at hx
    unfold Oper.wp execOp
    simp only [ho, resolve, invoke, builtin, Sem.run_bind, Sem.run_pure, Result.andThen_ok, List.map_toArray, List.map_cons, List.map_nil, hs, hx, hr]
    exact hk
theorem infoInt1 : (Tryz.prog.info? 3).map (fun i => (i.zero, i.size, i.bytes)) = some (some (.int .i64 0), 1, 8) := by kernel_rfl
theorem rhstep_any (R : Rd) (hR : RdOk R) (w : World) (F : Nat → Prop) (hb qb : Nat) (qv : Nat → Value) (ev en : Value) (h : Hp) (s : Ls) (i : Nat) (x : Pq) (l : List Pq) (m : Rh w F R.bk hb qb qv ev en h) (hM : RP R w s) (hd : ∀ y, F y → ¬ fR R y) (hi : i < h.q.length) (hq : h.q[i] = x :: l) (hx : x.1 < R.n) (hll : l.length ≤ 100) (hle : h.ev.length ≤ 68719476000) (hln : h.en.length ≤ 68719476000) :
    Calls Tryz.prog 65 #[.pointer (some ⟨hb, 0, none⟩), .int .i64 (i : Int)] w fun e w' => e = .returned (.bool true) ∧ ∃ F' qv' ev' en', Mr R w w' F hb qb F' qv' ev' en' (stepQ (pureM R.ins R.n) h s i x l).1 (stepQ (pureM R.ins R.n) h s i x l).2.1 := by
  obtain ⟨q, st, es, nn⟩ := h
  obtain ⟨mx, tg, cl⟩ := x
  dsimp only at hi hq hx hle hln
  obtain ⟨P, cap, eqv, oP, oR, cp0, cp1, cp2, fp2⟩ := m.head hi hq
  dsimp only at eqv cp0 cp1 cp2
  have HM : Hid (Mr R w w F hb qb F qv ev en ⟨q, st, es, nn⟩ s) := Mr.start m hM hd
  have H : Hid (Rh w F R.bk hb qb qv ev en ⟨q, st, es, nn⟩ ∧ qv i = .slice (some ⟨P, 0, none⟩) ((mx, tg, cl) :: l).length cap ∧ OwR w (.slice (some ⟨P, 0, none⟩) ((mx, tg, cl) :: l).length cap) ((mx, tg, cl) :: l)) := ⟨m, eqv, oR⟩
  have HV0 : Hid (qv i = .slice (some ⟨P, 0, none⟩) (l.length + 1) cap) := eqv
  have cr := m.qc i hi
  rw [eqv] at cr
  have ch : w.cell? ⟨hb, 1, none⟩ = some (.slice (some ⟨qb, 0, none⟩) q.length q.length) := (cell?_heap m.hc 1).trans rfl
  have h0 : (0 : Int) ≤ (i : Int) := Int.natCast_nonneg _
  have h1 : (i : Int) < (q.length : Int) := by omega
  have hl1 : ((mx, tg, cl) :: l).length = l.length + 1 := rfl
  rw [hl1] at cr
  have l1 : (0 : Int) < ((l.length + 1 : Nat) : Int) := by omega
  have hl2 : ¬ ((l.length + 1 : Nat) : Int) = 0 := by omega
  have HQ : Hid (q[i] = (mx, tg, cl) :: l) := hq
  have HI : Hid (i < q.length) := hi
  have hdw : decide (0 ≤ (i : Int) ∧ (i : Int) < (q.length : Int)) = true := by simp [h0, h1]
  have HCH : Hid (w.cell? ⟨hb, 1, none⟩ = some (.slice (some ⟨qb, 0, none⟩) q.length q.length)) := ch
  clear m hM eqv oR hq hl1 cp0 cp1
  go_enter Tryz.func65, Tryz.ntmps65
  go_wp2_with fail
  refine (rhas_any w hb q.length _ _ i HCH.out).mono ?_
  rintro e w' ⟨rfl, rfl⟩
  rw [hdw]
  clear hdw
  go_upto_if 34 with fail
  go_cut [] (fun wx => ∃ F1 ev1, Mr R w' wx F hb qb F1 qv ev1 en ⟨q.set i ((mx, tg, true) :: l), st, callE ⟨q, st, es, nn⟩ i (mx, tg, cl), nn⟩ s)
  case first =>
    cases cl with
    | true =>
      go_wp2_with fail
      go_meet
      case rel =>
        refine ⟨F, ev, ?_⟩
        have e : q.set i ((mx, tg, true) :: l) = q := by rw [← HQ.out]; exact List.set_getElem_self _
        rw [e]
        exact HM.out
    | false =>
      clear cp2 fp2 cr ch
      obtain ⟨ea, ec, hev⟩ := HM.out.m.oe.form
      have HV : Hid (ev = .slice ea es.length ec) := hev
      obtain ⟨P5, cap5, e5, oP5, -, cp0, cp1, -, -⟩ := HM.out.m.head (x := (mx, tg, false)) (l := l) HI.out (by exact HQ.out)
      have hPP : P5 = P := Option.some.inj (oP5.symm.trans oP)
      subst hPP
      dsimp only at cp0 cp1
      have lh := HM.out.m.lt _ HM.out.m.fh
      have lP := HM.out.m.lt _ (HM.out.m.fr i P5 HI.out oP5)
      have cE : w'.drew.cell? ⟨hb, 3, none⟩ = some (.slice ea es.length ec) := by rw [← hev]; exact (cell?_heap HM.out.m.hc 3).trans rfl
      have HS : Hid (w'.drew.cell? ⟨hb, 2, none⟩ = some (.int .i64 (st)) ∧ w'.drew.cell? ⟨P5, 1, none⟩ = some (.int .i64 tg)) := ⟨(cell?_heap HM.out.m.hc 2).trans rfl, cp1⟩
      have HA : Hid (∀ o : Obj, (w'.drew.alloc o).cell? ⟨hb, 2, none⟩ = some (.int .i64 (st)) ∧ (w'.drew.alloc o).cell? ⟨P5, 1, none⟩ = some (.int .i64 tg)) := fun o =>
        have e : ∀ g j, g < w'.heap.size → (w'.drew.alloc o).cell? ⟨g, j, none⟩ = w'.cell? ⟨g, j, none⟩ := fun g j hg => World.cell?_of_block (w := w') (Below.heap_alloc w'.drew o g hg)
        ⟨(e _ _ lh).trans HS.out.1, (e _ _ lP).trans HS.out.2⟩
      have cE2 : (w'.alloc (.cells #[.int .i64 1, .int .i64 (i : Int), .int .i64 tg, .int .i64 (st)] 36)).cell? ⟨hb, 3, none⟩ = some (.slice ea es.length ec) := (World.cell?_of_block (w := w') (Below.heap_alloc w' _ hb lh)).trans cE
      have HO : Hid (OwE w'.drew 0 (.slice ea es.length ec) es) := by rw [← hev]; exact HM.out.m.oe.later (Below.refl _ _).drew
      clear hev e5 cp0 cp1
      go_wp2_with fail
      (refine wp_region_held_drew (S := (fun W => W.cell? ⟨hb, 2, none⟩ = some (.int .i64 (st)) ∧ W.cell? ⟨P5, 1, none⟩ = some (.int .i64 tg))) (by kernel_rfl) HS.out (fun hHeld => ?_); simp only [List.size_toArray, List.length_cons, List.length_nil, Nat.reduceAdd, Array.replicate_succ, Array.replicate_zero, List.push_toArray, List.append_toArray, List.nil_append, List.cons_append])
      refine rgT 0 (h := ?_)
      refine rgT 1 (h := ?_)
      refine rgT 2 (h := ?_)
      refine rgT 3 (h := ?_)
      refine rgT 5 (h := ?_)
      refine rgT 6 (h := ?_)
      refine rgT 7 (h := ?_)
      refine rgT 8 (h := ?_)
      refine rgT 9 (h := ?_)
      refine rgT 10 (h := ?_)
      refine rgT 11 (h := ?_)
      refine rgT 12 (h := ?_)
      refine rgT 13 (h := ?_)
      refine rgT 14 (h := ?_)
      (refine wpAnyH_ready (rs := [4, 15]) (by kernel_rfl) (by simp) ?_; refine rgA 4 (by rfl) (fun K hK => ?_) (rgA 15 (by rfl) (fun K hK => ?_) AllReadyH.nil) <;> go_simp)
      (refine hK.out _ _ HS.out (fun hHeld => ?_); clear hK K; try simp only [Act.put, List.setIfInBounds_toArray, List.set_cons_zero, List.set_cons_succ])
      (refine rgS 15 (h := fun K hK => ?_); go_simp)
      (refine hK.out _ _ (HA.out _) (fun hHeld => ?_); clear hK K; try simp only [Act.put, List.setIfInBounds_toArray, List.set_cons_zero, List.set_cons_succ])
      rotate_left 1
      (refine hK.out _ _ (HA.out _) (fun hHeld => ?_); clear hK K; try simp only [Act.put, List.setIfInBounds_toArray, List.set_cons_zero, List.set_cons_succ])
      (refine rgS 4 (h := fun K hK => ?_); go_simp)
      (refine hK.out _ _ (HA.out _) (fun hHeld => ?_); clear hK K; try simp only [Act.put, List.setIfInBounds_toArray, List.set_cons_zero, List.set_cons_succ])
      all_goals
        clear cE cE2
        (refine rgS 16 (h := fun K hK => ?_); rw [if_pos (by rfl)])
        refine app_lies_wp (cs := evC) (wr := w'.drew) (.tmp 39) (.tmp 50) 33 36 (by rfl) Tryz.underlying33 infoEv rfl (by decide) (fun _ => rfl) _ es (1, (i : Int), tg, st) HO.out (by rfl) w'.heap.size rfl (by rfl) (by intro u hu; simp [evC] at hu; rcases hu with rfl | rfl | rfl | rfl <;> rfl) _ rfl (by unfold maxLen; omega) (by omega) ?_
        intro b c5 w5 ho k5 hb5 hl5
        have k5' : Keeps (fun g => ev.ownBlock = some g) w' w5 := by rw [HV.out]; exact (Keeps.refl _ _).drew.trans k5
        have hb5' : ev.ownBlock = some b ∨ w'.heap.size ≤ b := by rw [HV.out]; exact hb5
        have H6 := HM.out.m.event k5' ho hb5' hl5
        have ce : ∀ g j, g < w'.heap.size → ev.ownBlock ≠ some g → w5.cell? ⟨g, j, none⟩ = w'.cell? ⟨g, j, none⟩ := fun g j hg hn => k5'.cell (p := ⟨g, j, none⟩) hg hn
        have nh : ev.ownBlock ≠ some hb := fun e => (HM.out.m.evs hb e).1 rfl
        have nP : ev.ownBlock ≠ some P5 := fun e => (HM.out.m.rows i HI.out P5 oP).2.2.1 e
        have HB : Hid (w5.cell? ⟨hb, 2, none⟩ = some (.int .i64 (st)) ∧ w5.cell? ⟨P5, 1, none⟩ = some (.int .i64 tg)) := ⟨(ce _ _ lh nh).trans HS.out.1, (ce _ _ lP nP).trans HS.out.2⟩
        have cE5 : w5.cell? ⟨hb, 3, none⟩ = some ev := (ce _ _ lh nh).trans ((cell?_heap HM.out.m.hc 3).trans rfl)
        have fE5 : w5.frozen? ⟨hb, 3, none⟩ = false := (k5'.frozen (p := ⟨hb, 3, none⟩) lh nh).trans (frozen?_heap HM.out.m.hc 3)
        have HC : Hid ((w5.setCell ⟨hb, 3, none⟩ (.slice (some ⟨b, 0, none⟩) (es.length + 1) c5)).cell? ⟨hb, 2, none⟩ = some (.int .i64 (st)) ∧ (w5.setCell ⟨hb, 3, none⟩ (.slice (some ⟨b, 0, none⟩) (es.length + 1) c5)).cell? ⟨P5, 1, none⟩ = some (.int .i64 tg)) :=
          have e2 : ∀ g j, (g ≠ hb ∨ j ≠ 3) → (w5.setCell ⟨hb, 3, none⟩ (.slice (some ⟨b, 0, none⟩) (es.length + 1) c5)).cell? ⟨g, j, none⟩ = w5.cell? ⟨g, j, none⟩ := fun g j hn => World.cell?_setCell_other _ _ _ _ (fun e => hn.elim (fun hn => hn (congrArg Addr.block e).symm) (fun hn => hn (congrArg Addr.off e).symm))
          ⟨(e2 _ _ (.inr (by decide))).trans HB.out.1, (e2 _ _ (.inl (HM.out.m.rows i HI.out P5 oP).1)).trans HB.out.2⟩
        have HMx : Hid (∃ F2 ev2, Mr R w' (w5.setCell ⟨hb, 3, none⟩ (.slice (some ⟨b, 0, none⟩) (es.length + 1) c5)) F hb qb F2 qv ev2 en ⟨q, st, es ++ [(1, (i : Int), tg, st)], nn⟩ s) := ⟨_, _, HM.out.next H6 ((k5'.mono (fun g e => HM.out.m.fe g e)).setCell (p := ⟨hb, 3, none⟩) HM.out.m.fh _) (fun y hy => hy.elim .inl (fun e => by rw [e]; exact hb5'.elim (fun e => .inl (HM.out.m.fe b e)) .inr))⟩
        clear ho k5 k5' hb5 hb5' hl5 H6 ce nh nP HO HA HV
        (refine hK.out _ _ HB.out (fun hHeld => ?_); clear hK K; try simp only [Act.put, List.setIfInBounds_toArray, List.set_cons_zero, List.set_cons_succ])
        refine rgT 17 (h := ?_)
        refine rgT 18 (h := ?_)
        (refine rgS 19 (h := fun K hK => ?_); go_simp)
        (refine hK.out _ _ HC.out (fun hHeld => ?_); clear hK K; try simp only [Act.put, List.setIfInBounds_toArray, List.set_cons_zero, List.set_cons_succ])
        refine wpAnyH_done (by kernel_rfl) ?_ _
        clear cE5 fE5 HB HC HS lh lP
        generalize w5.setCell ⟨hb, 3, none⟩ (.slice (some ⟨b, 0, none⟩) (es.length + 1) c5) = W2 at *
        obtain ⟨F2, ev2, hm2⟩ := HMx.out
        have HM2 : Hid (Mr R w' W2 F hb qb F2 qv ev2 en ⟨q, st, es ++ [(1, (i : Int), tg, st)], nn⟩ s) := hm2
        obtain ⟨P6, cap6, e6, oP6, oR6, -, -, cp6, fp6⟩ := HM2.out.m.head (x := (mx, tg, false)) (l := l) HI.out HQ.out
        have hP6 : P6 = P5 := Option.some.inj (oP6.symm.trans oP)
        subst hP6
        have HM3 : Hid (Mr R w' (W2.setCell ⟨P6, 2, none⟩ (.bool true)) F hb qb F2 qv ev2 en ⟨q.set i ((mx, tg, true) :: l), st, es ++ [(1, (i : Int), tg, st)], nn⟩ s) := HM2.out.next (HM2.out.m.mark HI.out e6 oR6) (Keeps.setCell (B := F2) (Keeps.refl _ _) (HM2.out.m.fr i P6 HI.out oP6) _) (fun _ e => .inl e)
        clear hm2 HMx HM2 e6 oR6
        dsimp only at cp6
        go_wp2_with fail
        go_meet
        case rel => exact ⟨F2, ev2, HM3.out⟩
  case rest =>
    obtain ⟨F1, ev1, hmid⟩ := hcut
    obtain ⟨es1, hes1⟩ : ∃ es1, callE ⟨q, st, es, nn⟩ i (mx, tg, cl) = es1 := ⟨_, rfl⟩
    have HES : Hid (callE ⟨q, st, es, nn⟩ i (mx, tg, cl) = es1) := hes1
    rw [hes1] at hmid
    have hlen1 : es1.length ≤ 68719476001 := by
      rw [← hes1]; unfold callE; split
      · show es.length ≤ _; omega
      · simp; omega
    have HM1 : Hid (Mr R w' wc F hb qb F1 qv ev1 en ⟨q.set i ((mx, tg, true) :: l), st, es1, nn⟩ s) := hmid
    clear hes1 hmid cp2 fp2 cr ch HM H HCH
    have hset : i < (q.set i ((mx, tg, true) :: l)).length := by rw [List.length_set]; exact HI.out
    have cs : wc.cell? ⟨hb, 2, none⟩ = some (.int .i64 st) := (cell?_heap HM1.out.m.hc 2).trans rfl
    have fs : wc.frozen? ⟨hb, 2, none⟩ = false := frozen?_heap HM1.out.m.hc 2
    have hws : IntKind.i64.wrap (st + 1) = wrap64 (st + 1) := by rw [IntKind.wrap_i64]; unfold wrap64; omega
    have HM2 : Hid (Mr R w' (wc.setCell ⟨hb, 2, none⟩ (.int .i64 (wrap64 (st + 1)))) F hb qb F1 qv ev1 en ⟨q.set i ((mx, tg, true) :: l), wrap64 (st + 1), es1, nn⟩ s) := HM1.out.next (HM1.out.m.setSt _) (Keeps.setCell (B := F1) (Keeps.refl _ _) HM1.out.m.fh _) (fun _ e => .inl e)
    clear HM1
    go_wp2_with fail
    clear cs fs hws
    generalize wc.setCell ⟨hb, 2, none⟩ (.int .i64 (wrap64 (st + 1))) = W3 at *
    obtain ⟨P4, cap4, e4, oP4, -, cp4, -, -, -⟩ := HM2.out.m.head (x := (mx, tg, true)) (l := l) hset (by simp)
    have hP4 : P4 = P := Option.some.inj (oP4.symm.trans oP)
    subst hP4
    dsimp only at cp4
    have HB8 : Hid (W3.cell? ⟨hb, 0, none⟩ = some (.pointer (some ⟨R.bk, 0, none⟩)) ∧ W3.cell? ⟨P4, 0, none⟩ = some (.int .i64 (mx : Int))) := ⟨(cell?_heap HM2.out.m.hc 0).trans rfl, cp4⟩
    clear cp4 e4
    (refine wp_region_held_drew (S := (fun W => W.cell? ⟨hb, 0, none⟩ = some (.pointer (some ⟨R.bk, 0, none⟩)) ∧ W.cell? ⟨P4, 0, none⟩ = some (.int .i64 (mx : Int)))) (by kernel_rfl) HB8.out (fun hHeld => ?_); simp only [List.size_toArray, List.length_cons, List.length_nil, Nat.reduceAdd, Array.replicate_succ, Array.replicate_zero, List.push_toArray, List.append_toArray, List.nil_append, List.cons_append])
    refine rgT 0 (h := ?_)
    refine rgT 1 (h := ?_)
    refine rgT 2 (h := ?_)
    refine rgT 3 (h := ?_)
    refine rgT 4 (h := ?_)
    refine rgT 5 (h := ?_)
    refine rgT 6 (h := ?_)
    refine rgT 7 (h := ?_)
    (refine rgS 8 (h := fun K hK => ?_); go_simp)
    refine (rstep_any R hR W3.drew s (HM2.out.o.still (Keeps.refl _ _).drew) mx hx).mono ?_
    rintro e W4 ⟨rfl, o4, k4⟩
    have HM4 : Hid (Mr R w' W4 F hb qb F1 qv ev1 en ⟨q.set i ((mx, tg, true) :: l), wrap64 (st + 1), es1, nn⟩ (stI R.ins s mx)) := (HM2.out.still (Keeps.refl _ _).drew).go o4 k4
    clear o4 k4 HM2
    obtain ⟨P6, cap6, e6, oP6, -, cp6, -, -, -⟩ := HM4.out.m.head (x := (mx, tg, true)) (l := l) hset (by simp)
    have hP6 : P6 = P4 := Option.some.inj (oP6.symm.trans oP)
    subst hP6
    dsimp only at cp6
    (refine hK.out _ _ ⟨(cell?_heap HM4.out.m.hc 0).trans rfl, cp6⟩ (fun hHeld => ?_); clear hK K; try simp only [Act.put, List.setIfInBounds_toArray, List.set_cons_zero, List.set_cons_succ])
    refine rgT 9 (h := ?_)
    refine wpAnyH_done (by kernel_rfl) ?_ _
    clear e6 cp6 HB8
    obtain ⟨dn, hdn⟩ : ∃ dn, decide ((R.ins mx).length ≤ (stI R.ins s mx).pl mx) = dn := ⟨_, rfl⟩
    rw [hdn]
    have HDN : Hid ((pureM R.ins R.n).dn ((pureM R.ins R.n).st s mx) mx = dn) := hdn
    clear hdn
    cases dn with
    | false =>
      have HST : Hid (stepQ (pureM R.ins R.n) ⟨q, st, es, nn⟩ s i (mx, tg, cl) l = (⟨q.set i ((mx, tg, true) :: l), wrap64 (st + 1), es1, nn⟩, stI R.ins s mx, false)) := by
        show _ = _
        unfold stepQ
        dsimp only
        rw [if_neg (by rw [HDN.out]; decide), HES.out]
        rfl
      go_wp2
      go_ret
      rw [HST.out]
      exact ⟨rfl, _, _, _, _, HM4.out⟩
    | true =>
      have HST : Hid (stepQ (pureM R.ins R.n) ⟨q, st, es, nn⟩ s i (mx, tg, cl) l = (⟨q.set i l, wrap64 (st + 1), es1 ++ [(2, (i : Int), tg, wrap64 (st + 1))], nn ++ [mx]⟩, stI R.ins s mx, true)) := by
        show _ = _
        unfold stepQ
        dsimp only
        rw [if_pos HDN.out, HES.out]
        rfl
      go_wp2_with fail
      have oP : (qv i).ownBlock = some P6 := oP6
      obtain ⟨ea, ec, hev⟩ := HM4.out.m.oe.form
      have HV : Hid (ev1 = .slice ea es1.length ec) := hev
      obtain ⟨P5, cap5, e5, oP5, -, cp0, cp1, -, -⟩ := HM4.out.m.head (x := (mx, tg, true)) (l := l) hset (by simp)
      have hPP : P5 = P6 := Option.some.inj (oP5.symm.trans oP)
      subst hPP
      dsimp only at cp0 cp1
      have lh := HM4.out.m.lt _ HM4.out.m.fh
      have lP := HM4.out.m.lt _ (HM4.out.m.fr i P5 hset oP5)
      have cE : W4.drew.cell? ⟨hb, 3, none⟩ = some (.slice ea es1.length ec) := by rw [← hev]; exact (cell?_heap HM4.out.m.hc 3).trans rfl
      have HS : Hid (W4.drew.cell? ⟨hb, 2, none⟩ = some (.int .i64 (wrap64 (st + 1))) ∧ W4.drew.cell? ⟨P5, 1, none⟩ = some (.int .i64 tg)) := ⟨(cell?_heap HM4.out.m.hc 2).trans rfl, cp1⟩
      have HA : Hid (∀ o : Obj, (W4.drew.alloc o).cell? ⟨hb, 2, none⟩ = some (.int .i64 (wrap64 (st + 1))) ∧ (W4.drew.alloc o).cell? ⟨P5, 1, none⟩ = some (.int .i64 tg)) := fun o =>
        have e : ∀ g j, g < W4.heap.size → (W4.drew.alloc o).cell? ⟨g, j, none⟩ = W4.cell? ⟨g, j, none⟩ := fun g j hg => World.cell?_of_block (w := W4) (Below.heap_alloc W4.drew o g hg)
        ⟨(e _ _ lh).trans HS.out.1, (e _ _ lP).trans HS.out.2⟩
      have cE2 : (W4.alloc (.cells #[.int .i64 2, .int .i64 (i : Int), .int .i64 tg, .int .i64 (wrap64 (st + 1))] 36)).cell? ⟨hb, 3, none⟩ = some (.slice ea es1.length ec) := (World.cell?_of_block (w := W4) (Below.heap_alloc W4 _ hb lh)).trans cE
      have HO : Hid (OwE W4.drew 0 (.slice ea es1.length ec) es1) := by rw [← hev]; exact HM4.out.m.oe.later (Below.refl _ _).drew
      clear hev e5 cp0 cp1
      go_wp2_with fail
      (refine wp_region_held_drew (S := (fun W => W.cell? ⟨hb, 2, none⟩ = some (.int .i64 (wrap64 (st + 1))) ∧ W.cell? ⟨P5, 1, none⟩ = some (.int .i64 tg))) (by kernel_rfl) HS.out (fun hHeld => ?_); simp only [List.size_toArray, List.length_cons, List.length_nil, Nat.reduceAdd, Array.replicate_succ, Array.replicate_zero, List.push_toArray, List.append_toArray, List.nil_append, List.cons_append])
      refine rgT 0 (h := ?_)
      refine rgT 1 (h := ?_)
      refine rgT 2 (h := ?_)
      refine rgT 3 (h := ?_)
      refine rgT 5 (h := ?_)
      refine rgT 6 (h := ?_)
      refine rgT 7 (h := ?_)
      refine rgT 8 (h := ?_)
      refine rgT 9 (h := ?_)
      refine rgT 10 (h := ?_)
      refine rgT 11 (h := ?_)
      refine rgT 12 (h := ?_)
      refine rgT 13 (h := ?_)
      refine rgT 14 (h := ?_)
      (refine wpAnyH_ready (rs := [4, 15]) (by kernel_rfl) (by simp) ?_; refine rgA 4 (by rfl) (fun K hK => ?_) (rgA 15 (by rfl) (fun K hK => ?_) AllReadyH.nil) <;> go_simp)
      (refine hK.out _ _ HS.out (fun hHeld => ?_); clear hK K; try simp only [Act.put, List.setIfInBounds_toArray, List.set_cons_zero, List.set_cons_succ])
      (refine rgS 15 (h := fun K hK => ?_); go_simp)
      (refine hK.out _ _ (HA.out _) (fun hHeld => ?_); clear hK K; try simp only [Act.put, List.setIfInBounds_toArray, List.set_cons_zero, List.set_cons_succ])
      rotate_left 1
      (refine hK.out _ _ (HA.out _) (fun hHeld => ?_); clear hK K; try simp only [Act.put, List.setIfInBounds_toArray, List.set_cons_zero, List.set_cons_succ])
      (refine rgS 4 (h := fun K hK => ?_); go_simp)
      (refine hK.out _ _ (HA.out _) (fun hHeld => ?_); clear hK K; try simp only [Act.put, List.setIfInBounds_toArray, List.set_cons_zero, List.set_cons_succ])
      all_goals
        clear cE cE2
        (refine rgS 16 (h := fun K hK => ?_); rw [if_pos (by rfl)])
        refine app_lies_wp (cs := evC) (wr := W4.drew) (.tmp 78) (.tmp 89) 33 36 (by rfl) Tryz.underlying33 infoEv rfl (by decide) (fun _ => rfl) _ es1 (2, (i : Int), tg, wrap64 (st + 1)) HO.out (by rfl) W4.heap.size rfl (by rfl) (by intro u hu; simp [evC] at hu; rcases hu with rfl | rfl | rfl | rfl <;> rfl) _ rfl (by unfold maxLen; omega) (by omega) ?_
        intro b c5 w5 ho k5 hb5 hl5
        have k5' : Keeps (fun g => ev1.ownBlock = some g) W4 w5 := by rw [HV.out]; exact (Keeps.refl _ _).drew.trans k5
        have hb5' : ev1.ownBlock = some b ∨ W4.heap.size ≤ b := by rw [HV.out]; exact hb5
        have H6 := HM4.out.m.event k5' ho hb5' hl5
        have ce : ∀ g j, g < W4.heap.size → ev1.ownBlock ≠ some g → w5.cell? ⟨g, j, none⟩ = W4.cell? ⟨g, j, none⟩ := fun g j hg hn => k5'.cell (p := ⟨g, j, none⟩) hg hn
        have nh : ev1.ownBlock ≠ some hb := fun e => (HM4.out.m.evs hb e).1 rfl
        have nP : ev1.ownBlock ≠ some P5 := fun e => (HM4.out.m.rows i hset P5 oP).2.2.1 e
        have HB : Hid (w5.cell? ⟨hb, 2, none⟩ = some (.int .i64 (wrap64 (st + 1))) ∧ w5.cell? ⟨P5, 1, none⟩ = some (.int .i64 tg)) := ⟨(ce _ _ lh nh).trans HS.out.1, (ce _ _ lP nP).trans HS.out.2⟩
        have cE5 : w5.cell? ⟨hb, 3, none⟩ = some ev1 := (ce _ _ lh nh).trans ((cell?_heap HM4.out.m.hc 3).trans rfl)
        have fE5 : w5.frozen? ⟨hb, 3, none⟩ = false := (k5'.frozen (p := ⟨hb, 3, none⟩) lh nh).trans (frozen?_heap HM4.out.m.hc 3)
        have HC : Hid ((w5.setCell ⟨hb, 3, none⟩ (.slice (some ⟨b, 0, none⟩) (es1.length + 1) c5)).cell? ⟨hb, 2, none⟩ = some (.int .i64 (wrap64 (st + 1))) ∧ (w5.setCell ⟨hb, 3, none⟩ (.slice (some ⟨b, 0, none⟩) (es1.length + 1) c5)).cell? ⟨P5, 1, none⟩ = some (.int .i64 tg)) :=
          have e2 : ∀ g j, (g ≠ hb ∨ j ≠ 3) → (w5.setCell ⟨hb, 3, none⟩ (.slice (some ⟨b, 0, none⟩) (es1.length + 1) c5)).cell? ⟨g, j, none⟩ = w5.cell? ⟨g, j, none⟩ := fun g j hn => World.cell?_setCell_other _ _ _ _ (fun e => hn.elim (fun hn => hn (congrArg Addr.block e).symm) (fun hn => hn (congrArg Addr.off e).symm))
          ⟨(e2 _ _ (.inr (by decide))).trans HB.out.1, (e2 _ _ (.inl (HM4.out.m.rows i hset P5 oP).1)).trans HB.out.2⟩
        have HMx : Hid (∃ F2 ev2, Mr R w' (w5.setCell ⟨hb, 3, none⟩ (.slice (some ⟨b, 0, none⟩) (es1.length + 1) c5)) F hb qb F2 qv ev2 en ⟨q.set i ((mx, tg, true) :: l), wrap64 (st + 1), es1 ++ [(2, (i : Int), tg, wrap64 (st + 1))], nn⟩ (stI R.ins s mx)) := ⟨_, _, HM4.out.next H6 ((k5'.mono (fun g e => HM4.out.m.fe g e)).setCell (p := ⟨hb, 3, none⟩) HM4.out.m.fh _) (fun y hy => hy.elim .inl (fun e => by rw [e]; exact hb5'.elim (fun e => .inl (HM4.out.m.fe b e)) .inr))⟩
        clear ho k5 k5' hb5 hb5' hl5 H6 ce nh nP HO HA HV
        (refine hK.out _ _ HB.out (fun hHeld => ?_); clear hK K; try simp only [Act.put, List.setIfInBounds_toArray, List.set_cons_zero, List.set_cons_succ])
        refine rgT 17 (h := ?_)
        refine rgT 18 (h := ?_)
        (refine rgS 19 (h := fun K hK => ?_); go_simp)
        (refine hK.out _ _ HC.out (fun hHeld => ?_); clear hK K; try simp only [Act.put, List.setIfInBounds_toArray, List.set_cons_zero, List.set_cons_succ])
        refine wpAnyH_done (by kernel_rfl) ?_ _
        clear cE5 fE5 HB HC HS lh lP
        generalize w5.setCell ⟨hb, 3, none⟩ (.slice (some ⟨b, 0, none⟩) (es1.length + 1) c5) = W5 at *
        obtain ⟨F5, ev5, hm5⟩ := HMx.out
        have HM5 : Hid (Mr R w' W5 F hb qb F5 qv ev5 en ⟨q.set i ((mx, tg, true) :: l), wrap64 (st + 1), es1 ++ [(2, (i : Int), tg, wrap64 (st + 1))], nn⟩ (stI R.ins s mx)) := hm5
        clear hm5 HMx HM4
        generalize es1 ++ [(2, (i : Int), tg, wrap64 (st + 1))] = es5 at *
        obtain ⟨ta, tc, hen⟩ := HM5.out.m.ot.form
        have HEN : Hid (en = .slice ta nn.length tc) := hen
        obtain ⟨P7, cap7, e7, oP7, -, cp7, -, -, -⟩ := HM5.out.m.head (x := (mx, tg, true)) (l := l) hset (by simp)
        have hP7 : P7 = P5 := Option.some.inj (oP7.symm.trans oP)
        subst hP7
        dsimp only at cp7
        have lh := HM5.out.m.lt _ HM5.out.m.fh
        have lP := HM5.out.m.lt _ (HM5.out.m.fr i P7 hset oP7)
        have cT : W5.drew.cell? ⟨hb, 4, none⟩ = some (.slice ta nn.length tc) := by rw [← hen]; exact (cell?_heap HM5.out.m.hc 4).trans rfl
        have cT2 : (W5.alloc (.cells #[.int .i64 (mx : Int)] 3)).cell? ⟨hb, 4, none⟩ = some (.slice ta nn.length tc) := (World.cell?_of_block (w := W5) (Below.heap_alloc W5 _ hb lh)).trans cT
        have HO : Hid (OwI W5.drew 0 (.slice ta nn.length tc) nn) := by rw [← hen]; exact HM5.out.m.ot.later (Below.refl _ _).drew
        have HP5 : Hid (W5.drew.cell? ⟨P7, 0, none⟩ = some (.int .i64 (mx : Int))) := cp7
        have HP : Hid (∀ o : Obj, (W5.drew.alloc o).cell? ⟨P7, 0, none⟩ = some (.int .i64 (mx : Int))) := fun o => (World.cell?_of_block (w := W5) (Below.heap_alloc W5.drew o P7 lP)).trans cp7
        clear hen e7 cp7
        go_wp2_with fail
        (refine wp_region_held_drew (S := (fun W => W.cell? ⟨P7, 0, none⟩ = some (.int .i64 (mx : Int)))) (by kernel_rfl) HP5.out (fun hHeld => ?_); simp only [List.size_toArray, List.length_cons, List.length_nil, Nat.reduceAdd, Array.replicate_succ, Array.replicate_zero, List.push_toArray, List.append_toArray, List.nil_append, List.cons_append])
        refine rgT 0 (h := ?_)
        refine rgT 1 (h := ?_)
        refine rgT 2 (h := ?_)
        refine rgT 3 (h := ?_)
        refine rgT 5 (h := ?_)
        refine rgT 6 (h := ?_)
        refine rgT 7 (h := ?_)
        refine rgT 8 (h := ?_)
        (refine wpAnyH_ready (rs := [4, 9]) (by kernel_rfl) (by simp) ?_; refine rgA 4 (by rfl) (fun K hK => ?_) (rgA 9 (by rfl) (fun K hK => ?_) AllReadyH.nil) <;> go_simp)
        (refine hK.out _ _ HP5.out (fun hHeld => ?_); clear hK K; try simp only [Act.put, List.setIfInBounds_toArray, List.set_cons_zero, List.set_cons_succ])
        (refine rgS 9 (h := fun K hK => ?_); go_simp)
        (refine hK.out _ _ (HP.out _) (fun hHeld => ?_); clear hK K; try simp only [Act.put, List.setIfInBounds_toArray, List.set_cons_zero, List.set_cons_succ])
        rotate_left 1
        (refine hK.out _ _ (HP.out _) (fun hHeld => ?_); clear hK K; try simp only [Act.put, List.setIfInBounds_toArray, List.set_cons_zero, List.set_cons_succ])
        (refine rgS 4 (h := fun K hK => ?_); go_simp)
        (refine hK.out _ _ (HP.out _) (fun hHeld => ?_); clear hK K; try simp only [Act.put, List.setIfInBounds_toArray, List.set_cons_zero, List.set_cons_succ])
        all_goals
          clear cT cT2
          (refine rgS 10 (h := fun K hK => ?_); rw [if_pos (by rfl)])
          refine app_lies_wp (cs := inR) (wr := W5.drew) (.tmp 97) (.tmp 102) 91 3 (by rfl) Tryz.underlying91 infoInt1 rfl (by decide) (fun _ => rfl) _ nn mx HO.out (by rfl) W5.heap.size rfl (by rfl) (by intro u hu; simp [inR] at hu; subst hu; rfl) _ rfl (by unfold maxLen; omega) (by omega) ?_
          intro b6 c6 W6 ho k6 hb6 hl6
          have k6' : Keeps (fun g => en.ownBlock = some g) W5 W6 := by rw [HEN.out]; exact (Keeps.refl _ _).drew.trans k6
          have hb6' : en.ownBlock = some b6 ∨ W5.heap.size ≤ b6 := by rw [HEN.out]; exact hb6
          have m6 := HM5.out.m.ended k6' ho hb6' hl6
          have nh : en.ownBlock ≠ some hb := fun e => (HM5.out.m.ens hb e).1 rfl
          have nP : en.ownBlock ≠ some P7 := fun e => (HM5.out.m.rows i hset P7 oP7).2.2.2 e
          have c6P : W6.cell? ⟨P7, 0, none⟩ = some (.int .i64 (mx : Int)) := (k6'.cell (p := ⟨P7, 0, none⟩) lP nP).trans HP5.out
          have d6 : W6.cell? ⟨hb, 4, none⟩ = some en := (k6'.cell (p := ⟨hb, 4, none⟩) lh nh).trans ((cell?_heap HM5.out.m.hc 4).trans rfl)
          have f6 : W6.frozen? ⟨hb, 4, none⟩ = false := (k6'.frozen (p := ⟨hb, 4, none⟩) lh nh).trans (frozen?_heap HM5.out.m.hc 4)
          have HM6x : Hid (∃ F6 en6, Mr R w' (W6.setCell ⟨hb, 4, none⟩ (.slice (some ⟨b6, 0, none⟩) (nn.length + 1) c6)) F hb qb F6 qv ev5 en6 ⟨q.set i ((mx, tg, true) :: l), wrap64 (st + 1), es5, nn ++ [mx]⟩ (stI R.ins s mx)) := ⟨_, _, HM5.out.next m6 ((k6'.mono (fun g e => HM5.out.m.fn g e)).setCell (p := ⟨hb, 4, none⟩) HM5.out.m.fh _) (fun y hy => hy.elim .inl (fun e => by rw [e]; exact hb6'.elim (fun e => .inl (HM5.out.m.fn b6 e)) .inr))⟩
          have c7P : (W6.setCell ⟨hb, 4, none⟩ (.slice (some ⟨b6, 0, none⟩) (nn.length + 1) c6)).cell? ⟨P7, 0, none⟩ = some (.int .i64 (mx : Int)) := (World.cell?_setCell_other _ _ _ _ (fun e => (HM5.out.m.rows i hset P7 oP7).1 (congrArg Addr.block e).symm)).trans c6P
          clear ho k6 k6' hb6 hb6' hl6 m6 nh nP HO HP HM5 HEN
          (refine hK.out _ _ c6P (fun hHeld => ?_); clear hK K; try simp only [Act.put, List.setIfInBounds_toArray, List.set_cons_zero, List.set_cons_succ])
          refine rgT 11 (h := ?_)
          refine rgT 12 (h := ?_)
          (refine rgS 13 (h := fun K hK => ?_); go_simp)
          (refine hK.out _ _ c7P (fun hHeld => ?_); clear hK K; try simp only [Act.put, List.setIfInBounds_toArray, List.set_cons_zero, List.set_cons_succ])
          refine wpAnyH_done (by kernel_rfl) ?_ _
          clear c6P d6 f6 c7P HP5 lh lP
          generalize W6.setCell ⟨hb, 4, none⟩ (.slice (some ⟨b6, 0, none⟩) (nn.length + 1) c6) = W7 at *
          obtain ⟨F6, en6, hm6⟩ := HM6x.out
          have HM6 : Hid (Mr R w' W7 F hb qb F6 qv ev5 en6 ⟨q.set i ((mx, tg, true) :: l), wrap64 (st + 1), es5, nn ++ [mx]⟩ (stI R.ins s mx)) := hm6
          clear hm6 HM6x
          have HS9 : Hid (W7.cell? ⟨hb, 1, none⟩ = some (.slice (some ⟨qb, 0, none⟩) q.length q.length)) := by
            have := HM6.out.m.hc
            dsimp only at this
            rw [List.length_set] at this
            exact (cell?_heap this 1).trans rfl
          obtain ⟨P8, cap8, e8, oP8, oR8, -, -, -, -⟩ := HM6.out.m.head (x := (mx, tg, true)) (l := l) hset (by simp)
          have hP8 : P8 = P7 := Option.some.inj (oP8.symm.trans oP)
          subst hP8
          have cr := HM6.out.m.qc i hset
          rw [e8] at cr
          obtain ⟨-, hcap, -, -, -, -⟩ := owG_cap oR8
          have hcap' : l.length + 1 ≤ cap8 := hcap
          have i1 : (1 : Int) ≤ ((l.length + 1 : Nat) : Int) := by omega
          have i2 : ((l.length + 1 : Nat) : Int) ≤ (cap8 : Int) := by omega
          have hl9 : ((mx, tg, true) :: l).length = l.length + 1 := rfl
          rw [hl9] at cr
          have HR8 : Hid (OwR W7 (.slice (some ⟨P8, 0, none⟩) ((mx, tg, true) :: l).length cap8) ((mx, tg, true) :: l)) := oR8
          have lh := HM6.out.m.lt _ HM6.out.m.fh
          have lq := HM6.out.m.lt _ HM6.out.m.fq
          have cr2 : (W7.alloc (.cells #[] 219)).drew.cell? ⟨qb, i, none⟩ = some (.slice (some ⟨P8, 0, none⟩) (l.length + 1) cap8) := (World.cell?_of_block (w := W7) (Below.heap_alloc W7 _ qb lq)).trans cr
          have HS9a : Hid ((W7.alloc (.cells #[] 219)).drew.cell? ⟨hb, 1, none⟩ = some (.slice (some ⟨qb, 0, none⟩) q.length q.length)) := (World.cell?_of_block (w := W7) (Below.heap_alloc W7 _ hb lh)).trans HS9.out
          clear oR8 hcap hcap' hl9 e8
          go_wp2_with fail
          (refine wp_region_held_drew (S := (fun W => W.cell? ⟨hb, 1, none⟩ = some (.slice (some ⟨qb, 0, none⟩) q.length q.length))) (by kernel_rfl) HS9.out (fun hHeld => ?_); simp only [List.size_toArray, List.length_cons, List.length_nil, Nat.reduceAdd, Array.replicate_succ, Array.replicate_zero, List.push_toArray, List.append_toArray, List.nil_append, List.cons_append])
          refine rgT 0 (h := ?_)
          refine rgT 1 (h := ?_)
          refine rgT 2 (h := ?_)
          refine rgT 3 (h := ?_)
          refine rgT 4 (h := ?_)
          refine rgT 6 (h := ?_)
          refine rgT 7 (h := ?_)
          refine rgT 8 (h := ?_)
          refine rgT 9 (h := ?_)
          refine rgT 10 (h := ?_)
          refine rgT 11 (h := ?_)
          (refine wpAnyH_ready (rs := [5, 12]) (by kernel_rfl) (by simp) ?_; refine rgA 5 (by rfl) (fun K hK => ?_) (rgA 12 (by rfl) (fun K hK => ?_) AllReadyH.nil) <;> go_simp)
          (refine hK.out _ _ HS9a.out (fun hHeld => ?_); clear hK K; try simp only [Act.put, List.setIfInBounds_toArray, List.set_cons_zero, List.set_cons_succ])
          (refine rgS 12 (h := fun K hK => ?_); go_simp)
          (refine hK.out _ _ HS9a.out (fun hHeld => ?_); clear hK K; try simp only [Act.put, List.setIfInBounds_toArray, List.set_cons_zero, List.set_cons_succ])
          refine rgT 13 (h := ?_)
          rotate_left 1
          (refine hK.out _ _ HS9.out (fun hHeld => ?_); clear hK K; try simp only [Act.put, List.setIfInBounds_toArray, List.set_cons_zero, List.set_cons_succ])
          refine rgT 13 (h := ?_)
          (refine rgS 5 (h := fun K hK => ?_); go_simp)
          (refine hK.out _ _ HS9a.out (fun hHeld => ?_); clear hK K; try simp only [Act.put, List.setIfInBounds_toArray, List.set_cons_zero, List.set_cons_succ])
          all_goals
            clear cr cr2
            (refine rgS 14 (h := fun K hK => ?_); rw [if_pos (by rfl)])
            refine pop_wp W7 P8 cap8 (mx, tg, true) l HR8.out hll (.tmp 111) (.tmp 119) (by rfl) (by rfl) (by rfl) ?_
            intro b8 c8 W8 o8 k8 hb8 hl8
            have m8 := HM6.out.m.moved hset k8 o8 rfl hb8 hl8
            dsimp only at m8
            rw [List.set_set] at m8
            have hh8 : W8.cell? ⟨hb, 1, none⟩ = some (.slice (some ⟨qb, 0, none⟩) q.length q.length) := (k8.cell (p := ⟨hb, 1, none⟩) lh (fun e => e)).trans HS9.out
            have cr8 : W8.cell? ⟨qb, i, none⟩ = some (qv i) := (k8.cell (p := ⟨qb, i, none⟩) lq (fun e => e)).trans (HM6.out.m.qc i hset)
            obtain ⟨cq, hcq⟩ := HM6.out.m.qt
            have fr8 : W8.frozen? ⟨qb, i, none⟩ = false := (k8.frozen (p := ⟨qb, i, none⟩) lq (fun e => e)).trans (frozen?_heap hcq i)
            have hh9 : (W8.setCell ⟨qb, i, none⟩ (.slice (some ⟨b8, 0, none⟩) l.length c8)).cell? ⟨hb, 1, none⟩ = some (.slice (some ⟨qb, 0, none⟩) q.length q.length) := (World.cell?_setCell_other _ _ _ _ (fun e => HM6.out.m.hq (congrArg Addr.block e).symm)).trans hh8
            have HM9 : Hid (∃ F' qv' ev' en', Mr R w' (W8.setCell ⟨qb, i, none⟩ (.slice (some ⟨b8, 0, none⟩) l.length c8)) F hb qb F' qv' ev' en' ⟨q.set i l, wrap64 (st + 1), es5, nn ++ [mx]⟩ (stI R.ins s mx)) := ⟨_, _, _, _, HM6.out.next m8 ((k8.mono (fun g e => e.elim)).setCell (p := ⟨qb, i, none⟩) HM6.out.m.fq _) (fun y hy => hy.elim .inl (fun e => .inr (by rw [e]; exact hb8)))⟩
            clear o8 k8 m8 hcq HM6 HR8 HS9a lh lq hb8 hl8
            (refine hK.out _ _ hh8 (fun hHeld => ?_); clear hK K; try simp only [Act.put, List.setIfInBounds_toArray, List.set_cons_zero, List.set_cons_succ])
            refine rgT 15 (h := ?_)
            (refine rgS 16 (h := fun K hK => ?_); go_simp)
            (refine hK.out _ _ hh9 (fun hHeld => ?_); clear hK K; try simp only [Act.put, List.setIfInBounds_toArray, List.set_cons_zero, List.set_cons_succ])
            refine wpAnyH_done (by kernel_rfl) ?_ _
            clear hh8 cr8 fr8 hh9 HS9
            generalize (if cap8 = 1 then some (⟨P8, 0, none⟩ : Addr) else some ⟨P8, 3, none⟩) = yy at *
            generalize W8.setCell ⟨qb, i, none⟩ (.slice (some ⟨b8, 0, none⟩) l.length c8) = W9 at *
            go_wp2
            go_ret
            rw [HST.out]
            exact ⟨rfl, HM9.out⟩
end Go.Proofs.YtdpebhdjcgiboaaGreat

namespace Go.Proofs.YtdpebhdjcgiboaaGreat
open Go.ChangeShapes Go.WideShapes Go.ChangeAt Go.RowKit Go.MuLone Go.RwLone
set_option linter.unusedVariables false
set_option maxRecDepth 100000
set_option maxHeartbeats 3200000
theorem rpend_any {w : World} {F : Nat → Prop} {pt : Nat} {hb qb : Nat} {qv : Nat → Value} {ev en : Value} {h : Hp} (m : Rh w F pt hb qb qv ev en h) (x : Int) : Calls Tryz.prog 70 #[.pointer (some ⟨hb, 0, none⟩), .int .i64 x] w fun e w' => e = .returned (.int .i64 ((pendP h x : Nat) : Int)) ∧ w' = w := by
  by_cases hx : 0 ≤ x ∧ x < (h.q.length : Int)
  · obtain ⟨i, rfl⟩ : ∃ i : Nat, x = (i : Int) := ⟨x.toNat, by omega⟩
    have hi : i < h.q.length := by omega
    have e : pendP h (i : Int) = h.q[i].length := by
      unfold pendP
      rw [if_neg (by omega)]
      simp [hi]
    rw [e]
    exact rpend_in m i hi
  · have e : pendP h x = 0 := by
      unfold pendP
      split
      · rfl
      · rw [List.getElem?_eq_none (by omega)]; rfl
    rw [e]
    exact rpend_out m x hx
/-- The document's machines without memory. -/
abbrev PM (R : Rd) : Mc := pureM R.ins R.n
/-- The document's harness and its program, since w. -/
structure Pr (R : Rd) (w wr : World) (F : Nat → Prop) (hb qb : Nat) (a : Hp × Ls) : Prop where
  mid : ∃ F' qv ev en, Rh wr F' R.bk hb qb qv ev en a.1 ∧ (∀ y, F' y → F y ∨ w.heap.size ≤ y) ∧ (∀ y, F' y → ¬ fR R y)
  o : RP R wr a.2
  k : Keeps (fun x => F x ∨ fRw R x) w wr
  iv : Iv R.n a.1
theorem Pr.still {R : Rd} {w wr wy : World} {F : Nat → Prop} {hb qb : Nat} {a : Hp × Ls} (p : Pr R w wr F hb qb a) (k : Keeps (fun _ => False) wr wy) : Pr R w wy F hb qb a := by
  obtain ⟨F', qv, ev, en, m, f, d⟩ := p.mid
  exact ⟨⟨F', qv, ev, en, m.still k, f, d⟩, p.o.still k, p.k.trans (k.mono (fun _ e => e.elim)), p.iv⟩
theorem rpstep_any {R : Rd} (hR : RdOk R) {w wr : World} {F : Nat → Prop} {hb qb : Nat} {a : Hp × Ls} (p : Pr R w wr F hb qb a) (i : Nat) (x : Pq) (l : List Pq) (hq : a.1.q[i]? = some (x :: l)) :
    Calls Tryz.prog 65 #[.pointer (some ⟨hb, 0, none⟩), .int .i64 (i : Int)] wr fun e w' => e = .returned (.bool true) ∧ Pr R w w' F hb qb (stepP (PM R) a i).1 := by
  obtain ⟨F', qv, ev, en, m, f, d⟩ := p.mid
  obtain ⟨hlt, hge⟩ := List.getElem?_eq_some_iff.1 hq
  have ha := p.iv.a i _ hq
  have hb1 := p.iv.b
  have hc1 := p.iv.c
  refine (rhstep_any R hR wr F' hb qb qv ev en a.1 a.2 i x l m p.o d hlt hge (ha.2 x (List.mem_cons_self ..)) (by have := ha.1; simp at this; omega) (by omega) (by omega)).mono ?_
  rintro e w' ⟨rfl, F2, qv2, ev2, en2, md⟩
  have es : stepP (PM R) a i = (((stepQ (PM R) a.1 a.2 i x l).1, (stepQ (PM R) a.1 a.2 i x l).2.1), (stepQ (PM R) a.1 a.2 i x l).2.2) := by unfold stepP; rw [hq]
  have hw := p.k.size
  rw [es]
  refine ⟨rfl, ⟨F2, qv2, ev2, en2, md.m, fun y hy => ?_, md.d⟩, md.o, ?_, stepQ_iv (M := PM R) p.iv hq⟩
  · rcases md.f y hy with e | e
    · exact f y e
    · right; omega
  · refine ⟨md.k.os.trans p.k.os, md.k.tape.trans p.k.tape, md.k.output.trans p.k.output, Nat.le_trans hw md.k.size, fun g hg hn => (md.k.block g (by omega) (fun e => e.elim (fun e => (f g e).elim (fun e => hn (.inl e)) (fun e => by omega)) (fun e => hn (.inr e)))).trans (p.k.block g hg hn)⟩
theorem rmany_any {R : Rd} (hR : RdOk R) {w wr : World} {F : Nat → Prop} {hb qb : Nat} {a : Hp × Ls} (p : Pr R w wr F hb qb a) (x n : Int) (B : Nat) (hB : B ≤ 9223372036854775807) :
    Calls Tryz.prog 153 #[.pointer (some ⟨hb, 0, none⟩), .int .i64 x, .int .i64 n, .int .i64 (B : Int)] wr fun e w' => ∃ d : Nat, d ≤ B ∧ (runP (PM R) x B n a).2.1 = B - d ∧ e = .returned (.tuple #[.int .i64 (d : Int), .bool (!(runP (PM R) x B n a).1)]) ∧ Pr R w w' F hb qb (runP (PM R) x B n a).2.2 := by
  obtain ⟨r, hr⟩ : ∃ r, runP (PM R) x B n a = r := ⟨_, rfl⟩
  rw [hr]
  have HP : Hid (Pr R w wr F hb qb a ∧ runP (PM R) x B n a = r) := ⟨p, hr⟩
  clear p hr
  go_enter Tryz.func153, Tryz.ntmps153
  go_wp2_with fail
  go_loopw [10] (fun c wq => ∃ (d : Nat) (a' : Hp × Ls), c = .int .i64 (d : Int) ∧ d ≤ B ∧ Pr R w wq F hb qb a' ∧ runP (PM R) x (B - d) (n - d) a' = r) (fun c _ => (n - intOf c).toNat)
  case atStart => exact ⟨0, a, rfl, Nat.zero_le _, HP.out.1, by simpa using HP.out.2⟩
  case round =>
    obtain ⟨d, a', rfl, hd, hp, hr⟩ := hrel
    have HQ : Hid (Pr R w wr F hb qb a' ∧ runP (PM R) x (B - d) (n - d) a' = r) := ⟨hp, hr⟩
    obtain ⟨F', qv, ev, en, m, -, -⟩ := hp.mid
    have HH : Hid (Rh wr F' R.bk hb qb qv ev en a'.1) := m
    clear hp hr m HP
    by_cases hy0 : (d : Int) < n
    · go_wp2_with fail
      refine (rpend_any HH.out x).mono ?_
      rintro e w1 ⟨rfl, rfl⟩
      by_cases hp0 : pendP a'.1 x = 0
      · have HE : Hid (runP (PM R) x (B - d) (n - d) a' = (true, B - d, a')) := runP_end (.inr hp0)
        rw [hp0]
        clear hp0
        go_wp2
        go_ret2
        rw [← HQ.out.2, HE.out]
        exact ⟨d, hd, rfl, rfl, HQ.out.1⟩
      · obtain ⟨x0, hxl, z, lz, hz⟩ := pend_head hp0
        obtain ⟨pp, hpp⟩ : ∃ pp, pendP a'.1 x = pp := ⟨_, rfl⟩
        have hnn : ¬ (n - (d : Int) ≤ 0 ∨ pendP a'.1 x = 0) := fun e => e.elim (fun e => by omega) hp0
        rw [hpp]
        have hp1 : (0 : Int) < (pp : Int) := by omega
        by_cases hdB : d = B
        · subst hdB
          have HE : Hid (runP (PM R) x (d - d) (n - d) a' = (false, 0, a')) := by show _ = _; rw [Nat.sub_self]; simp only [runP, if_neg hnn]; rfl
          clear hnn hp0 hpp hz
          go_wp2
          go_ret2
          rw [← HQ.out.2, HE.out]
          exact ⟨d, Nat.le_refl _, (Nat.sub_self _).symm, rfl, HQ.out.1⟩
        · have HE : Hid (runP (PM R) x (B - d) (n - d) a' = runP (PM R) x (B - (d + 1)) (n - ((d + 1 : Nat) : Int)) (stepP (PM R) a' x.toNat).1) := by
            show _ = _
            have e1 : B - d = (B - (d + 1)) + 1 := by omega
            have e2 : n - ((d + 1 : Nat) : Int) = n - (d : Int) - 1 := by omega
            rw [e1, e2]
            simp only [runP, if_neg hnn]
          have hdB' : ¬ (d : Int) = (B : Int) := by omega
          have hdl : d + 1 ≤ B := by omega
          have HZ : Hid (a'.1.q[x.toNat]? = some (z :: lz)) := hz
          clear hnn hp0 hpp hz hdB
          go_wp2_with fail
          obtain ⟨xi, hxi⟩ : ∃ xi : Nat, x = (xi : Int) := ⟨x.toNat, by omega⟩
          subst hxi
          have HZ2 : Hid (a'.1.q[xi]? = some (z :: lz)) := HZ.out
          refine (rpstep_any hR HQ.out.1 xi z lz HZ2.out).mono ?_
          rintro e w3 ⟨rfl, p3⟩
          have H3 : Hid (Pr R w w3 F hb qb (stepP (PM R) a' xi).1 ∧ runP (PM R) (xi : Int) (B - (d + 1)) (n - ((d + 1 : Nat) : Int)) (stepP (PM R) a' xi).1 = r) := ⟨p3, HE.out.symm.trans HQ.out.2⟩
          clear p3 HH HQ HE HZ HZ2
          go_wp2
          go_roundw
          case rel => exact ⟨d + 1, _, by go_num, hdl, H3.out.1, H3.out.2⟩
          case measure => simp only [intOf]; omega
    · have HE : Hid (runP (PM R) x (B - d) (n - d) a' = (true, B - d, a')) := runP_end (.inl (by omega))
      go_wp2
      go_ret2
      rw [← HQ.out.2, HE.out]
      exact ⟨d, hd, rfl, rfl, HQ.out.1⟩
end Go.Proofs.YtdpebhdjcgiboaaGreat

namespace Go.Proofs.YtdpebhdjcgiboaaGreat
open Go.ChangeShapes Go.WideShapes Go.ChangeAt Go.RowKit Go.MuLone Go.RwLone
set_option linter.unusedVariables false
set_option maxRecDepth 100000
set_option maxHeartbeats 3200000
theorem pendP_at {h : Hp} {i : Nat} {l : List Pq} (e : h.q[i]? = some l) : pendP h (i : Int) = l.length := by
  unfold pendP
  rw [if_neg (by omega), show ((i : Int)).toNat = i from by omega, e]
  rfl
theorem stepP_gone {M : Mc} {a : Hp × M.σ} {i : Nat} {z : Pq} {lz : List Pq} (h : a.1.q[i]? = some (z :: lz)) (hd : (stepP M a i).2 = true) : (stepP M a i).1.1.q[i]? = some lz := by
  have hlt := (List.getElem?_eq_some_iff.1 h).1
  have es : stepP M a i = (((stepQ M a.1 a.2 i z lz).1, (stepQ M a.1 a.2 i z lz).2.1), (stepQ M a.1 a.2 i z lz).2.2) := by unfold stepP; rw [h]
  rw [es] at hd ⊢
  unfold stepQ at hd ⊢
  by_cases e : M.dn (M.st a.2 z.1) z.1 = true
  · rw [if_pos e]
    exact List.getElem?_set_self hlt
  · rw [if_neg e] at hd; cases hd
theorem rfin_any {R : Rd} (hR : RdOk R) {w wr : World} {F : Nat → Prop} {hb qb : Nat} {a : Hp × Ls} (p : Pr R w wr F hb qb a) (x : Int) (B : Nat) (hB : B ≤ 9223372036854775807) :
    Calls Tryz.prog 154 #[.pointer (some ⟨hb, 0, none⟩), .int .i64 x, .int .i64 (B : Int)] wr fun e w' => ∃ d : Nat, d ≤ B ∧ (finA (PM R) x B a).2.1 = B - d ∧ e = .returned (.tuple #[.int .i64 (d : Int), .bool (!(finA (PM R) x B a).1)]) ∧ Pr R w w' F hb qb (finA (PM R) x B a).2.2 := by
  have HP : Hid (Pr R w wr F hb qb a) := p
  obtain ⟨F', qv, ev, en, m, -, -⟩ := p.mid
  have HH : Hid (Rh wr F' R.bk hb qb qv ev en a.1) := m
  clear p m
  by_cases hp0 : pendP a.1 x = 0
  · have HE : Hid (finA (PM R) x B a = (true, B, a)) := by show _ = _; unfold finA; rw [if_pos hp0]; rfl
    go_enter Tryz.func154, Tryz.ntmps154
    go_wp2_with fail
    refine (rpend_any HH.out x).mono ?_
    rintro e w1 ⟨rfl, rfl⟩
    rw [hp0]
    clear hp0
    go_wp2_with fail
    go_loopw [8] (fun c wq => c = .int .i64 0 ∧ wq = w1) (fun _ _ => 0)
    case atStart => exact ⟨rfl, rfl⟩
    case round =>
      obtain ⟨rfl, rfl⟩ := hrel
      go_wp2
      go_ret2
      rw [HE.out]
      exact ⟨0, Nat.zero_le _, rfl, rfl, HP.out⟩
  · have he : finA (PM R) x B a = finP (PM R) x.toNat B a := by unfold finA; rw [if_neg hp0]
    rw [he]
    obtain ⟨x0, hxl, z, lz, hz⟩ := pend_head hp0
    obtain ⟨i, rfl⟩ : ∃ i : Nat, x = (i : Int) := ⟨x.toNat, by omega⟩
    have ei : ((i : Int)).toNat = i := by omega
    rw [ei] at hz hxl ⊢
    obtain ⟨r, hr⟩ : ∃ r, finP (PM R) i B a = r := ⟨_, rfl⟩
    rw [hr]
    obtain ⟨pp, hpp⟩ : ∃ pp, pendP a.1 (i : Int) = pp := ⟨_, rfl⟩
    have hp1 : (0 : Int) < (pp : Int) := by omega
    have HZ : Hid (a.1.q[i]? = some (z :: lz) ∧ pendP a.1 (i : Int) = pp ∧ finP (PM R) i B a = r) := ⟨hz, hpp, hr⟩
    have HPP : Hid (pendP a.1 (i : Int) = pp) := hpp
    clear hz hr he ei hp0 hpp
    go_enter Tryz.func154, Tryz.ntmps154
    go_wp2_with fail
    refine (rpend_any HH.out i).mono ?_
    rintro e w1 ⟨rfl, rfl⟩
    rw [HPP.out]
    clear HPP HH
    go_wp2_with fail
    go_loopw [8] (fun c wq => ∃ (d : Nat) (a' : Hp × Ls), c = .int .i64 (d : Int) ∧ d ≤ B ∧ Pr R w wq F hb qb a' ∧ ((∃ z lz, a'.1.q[i]? = some (z :: lz) ∧ pendP a'.1 (i : Int) = pp ∧ finP (PM R) i (B - d) a' = r) ∨ (¬ pendP a'.1 (i : Int) = pp ∧ r = (true, B - d, a')))) (fun c _ => ((B : Int) - intOf c).toNat)
    case atStart => exact ⟨0, a, rfl, Nat.zero_le _, HP.out, .inl ⟨z, lz, HZ.out.1, HZ.out.2.1, HZ.out.2.2⟩⟩
    case round =>
      obtain ⟨d, a', rfl, hd, hp, hor⟩ := hrel
      have HQ : Hid (Pr R w wr F hb qb a') := hp
      obtain ⟨F', qv, ev, en, m, -, -⟩ := hp.mid
      have HH : Hid (Rh wr F' R.bk hb qb qv ev en a'.1) := m
      clear hp m HZ HP
      rcases hor with ⟨z', lz', hz', hpp, hr'⟩ | ⟨hne, hr'⟩
      · have HR : Hid (a'.1.q[i]? = some (z' :: lz') ∧ finP (PM R) i (B - d) a' = r ∧ pp = lz'.length + 1) := ⟨hz', hr', by rw [← hpp, pendP_at hz']; rfl⟩
        have HPP : Hid (pendP a'.1 (i : Int) = pp) := hpp
        clear hz' hpp hr'
        go_wp2_with fail
        refine (rpend_any HH.out i).mono ?_
        rintro e w1 ⟨rfl, rfl⟩
        rw [HPP.out]
        by_cases hdB : d = B
        · subst hdB
          have HE : Hid (finP (PM R) i (d - d) a' = (false, 0, a')) := by show _ = _; rw [Nat.sub_self]; rfl
          go_wp2
          go_ret2
          rw [← HR.out.2.1, HE.out]
          exact ⟨d, Nat.le_refl _, (Nat.sub_self _).symm, rfl, HQ.out⟩
        · have hdB' : ¬ (d : Int) = (B : Int) := by omega
          have hdl : d + 1 ≤ B := by omega
          have he1 : B - d = (B - (d + 1)) + 1 := by omega
          have HE1 : Hid (B - d = (B - (d + 1)) + 1) := he1
          clear hdB he1
          go_wp2_with fail
          refine (rpstep_any hR HQ.out i z' lz' HR.out.1).mono ?_
          rintro e w3 ⟨rfl, p3⟩
          by_cases hs : (stepP (PM R) a' i).2 = true
          · have HE : Hid (finP (PM R) i (B - d) a' = (true, B - (d + 1), (stepP (PM R) a' i).1)) := by show _ = _; rw [HE1.out]; simp only [finP, if_pos hs]
            have H3 : Hid (Pr R w w3 F hb qb (stepP (PM R) a' i).1 ∧ (¬ pendP (stepP (PM R) a' i).1.1 (i : Int) = pp)) := ⟨p3, by rw [pendP_at (stepP_gone HR.out.1 hs), HR.out.2.2]; omega⟩
            clear p3 hs
            go_wp2
            go_roundw
            case rel => exact ⟨d + 1, _, by go_num, hdl, H3.out.1, .inr ⟨H3.out.2, by rw [← HR.out.2.1, HE.out]; rfl⟩⟩
            case measure => simp only [intOf]; omega
          · have hs' : (stepP (PM R) a' i).2 = false := by simpa using hs
            have HE : Hid (finP (PM R) i (B - d) a' = finP (PM R) i (B - (d + 1)) (stepP (PM R) a' i).1) := by show _ = _; rw [HE1.out]; simp only [finP, if_neg hs]
            have H3 : Hid (Pr R w w3 F hb qb (stepP (PM R) a' i).1 ∧ (stepP (PM R) a' i).1.1.q[i]? = some ((z'.1, z'.2.1, true) :: lz')) := ⟨p3, stepP_head HR.out.1 hs'⟩
            clear p3 hs hs'
            go_wp2
            go_roundw
            case rel => exact ⟨d + 1, _, by go_num, hdl, H3.out.1, .inl ⟨_, _, H3.out.2, by rw [pendP_at H3.out.2, HR.out.2.2]; rfl, by rw [← HE.out]; exact HR.out.2.1⟩⟩
            case measure => simp only [intOf]; omega
      · have HR : Hid (r = (true, B - d, a')) := hr'
        obtain ⟨p2, hp2⟩ : ∃ p2, pendP a'.1 (i : Int) = p2 := ⟨_, rfl⟩
        have HP2 : Hid (pendP a'.1 (i : Int) = p2) := hp2
        rw [hp2] at hne
        have hne' : ¬ (p2 : Int) = (pp : Int) := by omega
        clear hr' hp2
        go_wp2_with fail
        refine (rpend_any HH.out i).mono ?_
        rintro e w1 ⟨rfl, rfl⟩
        rw [HP2.out]
        go_wp2
        go_ret2
        rw [HR.out]
        exact ⟨d, hd, rfl, rfl, HQ.out⟩
end Go.Proofs.YtdpebhdjcgiboaaGreat

namespace Go.Proofs.YtdpebhdjcgiboaaGreat
open Go.ChangeShapes Go.WideShapes Go.ChangeAt Go.RowKit Go.MuLone Go.RwLone
set_option linter.unusedVariables false
set_option maxRecDepth 100000
set_option maxHeartbeats 3200000
theorem roundN_skip {M : Mc} {kk t left : Nat} {a : Hp × M.σ} (h : pendP a.1 (t : Int) = 0) : roundN M (kk + 1) t left a = roundN M kk (t + 1) left a := by
  conv => lhs; unfold roundN
  rw [runP_end (.inr h), if_pos rfl]
theorem roundN_stop {M : Mc} {kk t : Nat} {a : Hp × M.σ} (h : ¬ pendP a.1 (t : Int) = 0) : roundN M (kk + 1) t 0 a = (false, 0, a) := by
  conv => lhs; unfold roundN
  rw [runP_one, if_neg h]
  rfl
theorem roundN_step {M : Mc} {kk t l : Nat} {a : Hp × M.σ} (h : ¬ pendP a.1 (t : Int) = 0) : roundN M (kk + 1) t (l + 1) a = roundN M kk (t + 1) l (stepP M a t).1 := by
  conv => lhs; unfold roundN
  rw [runP_one, if_neg h]
  rfl
theorem rounds_stop {M : Mc} {n : Int} {left N : Nat} {a a2 : Hp × M.σ} (h : ¬ (n ≤ 0 ∨ idleP a.1 = true)) (hN : a.1.q.length = N) (hr : roundN M N 0 left a = (false, 0, a2)) : roundsA M n left a = (false, 0, a2) := by
  rw [roundsA_no h (by rw [hN, hr]; simp), hN, hr]
theorem rounds_next {M : Mc} {n : Int} {left N l2 : Nat} {a a2 : Hp × M.σ} (h : ¬ (n ≤ 0 ∨ idleP a.1 = true)) (hN : a.1.q.length = N) (hr : roundN M N 0 left a = (true, l2, a2)) : roundsA M n left a = roundsA M (n - 1) l2 a2 := by
  rw [roundsA_on h (by rw [hN, hr]), hN, hr]
theorem rounds_less {M : Mc} {left N l2 : Nat} {a a2 : Hp × M.σ} (hs : ∃ j, 0 ≤ j ∧ j < 0 + a.1.q.length ∧ ¬ pendP a.1 (j : Int) = 0) (hN : a.1.q.length = N) (hr : roundN M N 0 left a = (true, l2, a2)) : l2 < left := by
  have q := roundN_some (M := M) N 0 left a (by rw [← hN]; exact hs) (by rw [hr])
  rw [hr] at q
  exact q
theorem rrounds_any {R : Rd} (hR : RdOk R) {w wr : World} {F : Nat → Prop} {hb qb : Nat} {a : Hp × Ls} (p : Pr R w wr F hb qb a) (n Y : Int) (B : Nat) (hB : B ≤ 9223372036854775807) (hY : (n < 0 ∧ (B : Int) < Y) ∨ (0 ≤ n ∧ Y = n)) :
    Calls Tryz.prog 155 #[.pointer (some ⟨hb, 0, none⟩), .int .i64 n, .int .i64 (B : Int)] wr fun e w' => ∃ d : Nat, d ≤ B ∧ (roundsA (PM R) Y B a).2.1 = B - d ∧ e = .returned (.tuple #[.int .i64 (d : Int), .bool (!(roundsA (PM R) Y B a).1)]) ∧ Pr R w w' F hb qb (roundsA (PM R) Y B a).2.2 := by
  obtain ⟨r, hr⟩ : ∃ r, roundsA (PM R) Y B a = r := ⟨_, rfl⟩
  rw [hr]
  have HP : Hid (Pr R w wr F hb qb a ∧ roundsA (PM R) Y B a = r) := ⟨p, hr⟩
  have HY : Hid ((n < 0 ∧ (B : Int) < Y) ∨ (0 ≤ n ∧ Y = n)) := hY
  clear p hr hY
  go_enter Tryz.func155, Tryz.ntmps155
  go_wp2_with fail
  go_loopw [8, 9] (fun c8 c9 wq => ∃ (d k : Nat) (y : Int) (a' : Hp × Ls), c8 = .int .i64 (d : Int) ∧ c9 = .int .i64 (k : Int) ∧ d ≤ B ∧ k ≤ d ∧ Pr R w wq F hb qb a' ∧ roundsA (PM R) y (B - d) a' = r ∧ ((n < 0 ∧ ((B - d : Nat) : Int) < y) ∨ (0 ≤ n ∧ y = n - k))) (fun c8 _ _ => ((B : Int) - intOf c8).toNat)
  case atStart =>
    refine ⟨0, 0, Y, a, rfl, rfl, Nat.zero_le _, Nat.le_refl _, HP.out.1, HP.out.2, ?_⟩
    rcases HY.out with ⟨h1, h2⟩ | ⟨h1, h2⟩
    · exact .inl ⟨h1, by omega⟩
    · exact .inr ⟨h1, by omega⟩
  case round =>
    obtain ⟨d, k, y, a', rfl, rfl, hd, hk, hp, hr, hy⟩ := hrel
    have HQ : Hid (Pr R w wr F hb qb a' ∧ roundsA (PM R) y (B - d) a' = r) := ⟨hp, hr⟩
    have HYY : Hid ((n < 0 ∧ ((B - d : Nat) : Int) < y) ∨ (0 ≤ n ∧ y = n - k)) := hy
    obtain ⟨F', qv, ev, en, m, -, -⟩ := hp.mid
    have HH : Hid (Rh wr F' R.bk hb qb qv ev en a'.1) := m
    have n16 := m.n16
    clear hp hr m HP hy
    by_cases hgo : n < 0 ∨ (k : Int) < n
    · have hy0 : 0 < y := by
        rcases HYY.out with ⟨h1, h2⟩ | ⟨h1, h2⟩
        · omega
        · rcases hgo with h | h <;> omega
      have hgo' : n < 0 ∨ (¬ n < 0 ∧ (k : Int) < n) := by omega
      clear hgo
      rcases hgo' with g1 | ⟨g1, g2⟩
      all_goals
        go_wp2_with fail
        refine (ridle_any HH.out).mono ?_
        rintro e w1 ⟨rfl, rfl⟩
        by_cases hid : idleP a'.1 = true
        · have HE : Hid (roundsA (PM R) y (B - d) a' = (true, B - d, a')) := roundsA_end (.inr hid)
          rw [hid]
          clear hid
          go_wp2
          go_ret2
          rw [← HQ.out.2, HE.out]
          exact ⟨d, hd, rfl, rfl, HQ.out.1⟩
        · have hid' : idleP a'.1 = false := by simpa using hid
          have HN : Hid (¬ (y ≤ 0 ∨ idleP a'.1 = true)) := fun e => e.elim (fun e => by omega) hid
          have HSM : Hid (∃ j, 0 ≤ j ∧ j < 0 + a'.1.q.length ∧ ¬ pendP a'.1 (j : Int) = 0) := idle_some hid
          rw [hid']
          clear hid hid' HH
          obtain ⟨N, hN⟩ : ∃ N, a'.1.q.length = N := ⟨_, rfl⟩
          have HNN : Hid (a'.1.q.length = N) := hN
          rw [hN] at n16
          clear hN
          go_wp2_with fail
          go_loopw [8, 10] (fun c8 c10 wq => ∃ (t d2 : Nat) (a2 : Hp × Ls), c8 = .int .i64 (d2 : Int) ∧ c10 = .int .i64 (t : Int) ∧ t ≤ N ∧ d2 ≤ B ∧ a2.1.q.length = N ∧ Pr R w wq F hb qb a2 ∧ roundN (PM R) (N - t) t (B - d2) a2 = roundN (PM R) N 0 (B - d) a') (fun _ c10 _ => N - (intOf c10).toNat)
          case atStart => exact ⟨0, d, a', rfl, rfl, by omega, hd, HNN.out, HQ.out.1, rfl⟩
          case round =>
            obtain ⟨t, d2, a2, rfl, rfl, ht, hd2, hlen, hp2, hr2⟩ := hrel
            have H2 : Hid (Pr R w wr F hb qb a2 ∧ roundN (PM R) (N - t) t (B - d2) a2 = roundN (PM R) N 0 (B - d) a' ∧ a2.1.q.length = N) := ⟨hp2, hr2, hlen⟩
            obtain ⟨F2, qv2, ev2, en2, m2, -, -⟩ := hp2.mid
            have HH2 : Hid (Rh wr F2 R.bk hb qb qv2 ev2 en2 a2.1) := m2
            have cq : wr.cell? ⟨hb, 1, none⟩ = some (.slice (some ⟨qb, 0, none⟩) N N) := by rw [← hlen]; exact (cell?_heap m2.hc 1).trans rfl
            clear hp2 hr2 m2 hlen
            by_cases h4 : t < N
            · have t1 : (t : Int) < (N : Int) := by omega
              obtain ⟨kk, hkk⟩ : ∃ kk, N - t = kk + 1 := ⟨N - t - 1, by omega⟩
              have HK : Hid (N - t = kk + 1) := hkk
              clear hkk
              go_wp2_with fail
              refine (rpend_any HH2.out t).mono ?_
              rintro e w3 ⟨rfl, rfl⟩
              by_cases hp0 : pendP a2.1 (t : Int) = 0
              · have H3 : Hid (roundN (PM R) (N - (t + 1)) (t + 1) (B - d2) a2 = roundN (PM R) N 0 (B - d) a') := by
                  have q := H2.out.2.1
                  rw [HK.out] at q
                  have ek : N - (t + 1) = kk := by have := HK.out; omega
                  rw [show N - (t + 1) = kk from ek]
                  exact (roundN_skip (M := PM R) (a := a2) hp0).symm.trans q
                rw [hp0]
                clear hp0 cq
                go_wp2
                go_roundw
                case rel => exact ⟨t + 1, d2, a2, rfl, by go_num, by omega, hd2, H2.out.2.2, H2.out.1, H3.out⟩
                case measure => simp only [intOf]; omega
              · obtain ⟨x0, hxl, z, lz, hz⟩ := pend_head hp0
                have et : ((t : Int)).toNat = t := by omega
                rw [et] at hz
                obtain ⟨pp, hpp⟩ : ∃ pp, pendP a2.1 (t : Int) = pp := ⟨_, rfl⟩
                have hp1 : ¬ (pp : Int) = 0 := by omega
                have HZ : Hid (a2.1.q[t]? = some (z :: lz)) := hz
                have HPN : Hid (¬ pendP a2.1 (t : Int) = 0) := hp0
                rw [hpp]
                clear hp0 hz hpp et hxl
                by_cases hdB : d2 = B
                · subst hdB
                  have hrn : roundN (PM R) N 0 (d2 - d) a' = (false, 0, a2) := by
                    have q := H2.out.2.1
                    rw [HK.out, Nat.sub_self] at q
                    exact q.symm.trans (roundN_stop (M := PM R) (a := a2) HPN.out)
                  have H3 : Hid (r = (false, 0, a2)) := HQ.out.2.symm.trans (rounds_stop (M := PM R) (a := a') (a2 := a2) HN.out HNN.out hrn)
                  clear hrn cq
                  go_wp2
                  go_ret2
                  rw [H3.out]
                  exact ⟨d2, Nat.le_refl _, (Nat.sub_self _).symm, rfl, H2.out.1⟩
                · have hdB' : ¬ (d2 : Int) = (B : Int) := by omega
                  have hdl : d2 + 1 ≤ B := by omega
                  have he1 : B - d2 = (B - (d2 + 1)) + 1 := by omega
                  have H3 : Hid (roundN (PM R) (N - (t + 1)) (t + 1) (B - (d2 + 1)) (stepP (PM R) a2 t).1 = roundN (PM R) N 0 (B - d) a') := by
                    have q := H2.out.2.1
                    rw [HK.out, he1] at q
                    have ek : N - (t + 1) = kk := by have := HK.out; omega
                    rw [show N - (t + 1) = kk from ek]
                    exact (roundN_step (M := PM R) (a := a2) HPN.out).symm.trans q
                  clear hdB he1 cq
                  go_wp2_with fail
                  refine (rpstep_any hR H2.out.1 t z lz HZ.out).mono ?_
                  rintro e w4 ⟨rfl, p4⟩
                  have H4 : Hid (Pr R w w4 F hb qb (stepP (PM R) a2 t).1 ∧ (stepP (PM R) a2 t).1.1.q.length = N) := ⟨p4, stepP_len.trans H2.out.2.2⟩
                  clear p4
                  go_wp2
                  go_roundw
                  case rel => exact ⟨t + 1, d2 + 1, _, by go_num, by go_num, by omega, hdl, H4.out.2, H4.out.1, H3.out⟩
                  case measure => simp only [intOf]; omega
            · have hk0 : N - t = 0 := by omega
              have hrn : roundN (PM R) N 0 (B - d) a' = (true, B - d2, a2) := by
                have q := H2.out.2.1
                rw [hk0] at q
                exact q.symm
              have hless : B - d2 < B - d := rounds_less (M := PM R) (a := a') (a2 := a2) HSM.out HNN.out hrn
              have H3 : Hid (Pr R w wr F hb qb a2 ∧ roundsA (PM R) (y - 1) (B - d2) a2 = r) := ⟨H2.out.1, (rounds_next (M := PM R) (a := a') (a2 := a2) HN.out HNN.out hrn).symm.trans HQ.out.2⟩
              have HLS : Hid (B - d2 < B - d) := hless
              clear hrn H2 hless
              go_wp2
              go_roundw
              case rel =>
                have hl := HLS.out
                have hk1 : (k : Int) + 1 ≤ 9223372036854775807 := by omega
                refine ⟨d2, k + 1, y - 1, a2, rfl, by (have e : wrap64 ((k : Int) + 1) = ((k + 1 : Nat) : Int) := by unfold wrap64; omega); rw [e], hd2, by omega, H3.out.1, H3.out.2, ?_⟩
                rcases HYY.out with ⟨h1, h2⟩ | ⟨h1, h2⟩
                · exact .inl ⟨h1, by omega⟩
                · exact .inr ⟨h1, by omega⟩
              case measure => have hl := HLS.out; simp only [intOf]; omega
    · have HE : Hid (roundsA (PM R) y (B - d) a' = (true, B - d, a')) := roundsA_end (.inl (by
        rcases HYY.out with ⟨h1, h2⟩ | ⟨h1, h2⟩ <;> omega))
      have g1 : ¬ n < 0 := fun e => hgo (.inl e)
      have g2 : ¬ (k : Int) < n := fun e => hgo (.inr e)
      clear hgo
      go_wp2
      go_ret2
      rw [← HQ.out.2, HE.out]
      exact ⟨d, hd, rfl, rfl, HQ.out.1⟩
end Go.Proofs.YtdpebhdjcgiboaaGreat

namespace Go.Proofs.YtdpebhdjcgiboaaGreat
open Go.ChangeShapes Go.WideShapes Go.ChangeAt Go.RowKit Go.MuLone Go.RwLone
set_option linter.unusedVariables false
set_option maxRecDepth 100000
set_option maxHeartbeats 3200000
theorem rone_any {R : Rd} (hR : RdOk R) {w wr : World} {F : Nat → Prop} {hb qb : Nat} {a : Hp × Ls} (p : Pr R w wr F hb qb a) (k x nn : Int) (B : Nat) (hB : B ≤ 9223372036854775807) (hD : B = 9223372036854775807 → roundsA (PM R) 9223372036854775808 B a = roundsA (PM R) 9223372036854775807 B a) :
    Calls Tryz.prog 114 #[.pointer (some ⟨hb, 0, none⟩), .agg #[.int .i64 k, .int .i64 x, .int .i64 nn], .int .i64 (B : Int)] wr fun e w' => ∃ d : Nat, d ≤ B ∧ (pickP (PM R) (k, x, nn) B a).2.1 = B - d ∧ e = .returned (.tuple #[.int .i64 (d : Int), .bool (!(pickP (PM R) (k, x, nn) B a).1)]) ∧ Pr R w w' F hb qb (pickP (PM R) (k, x, nn) B a).2.2 := by
  obtain ⟨r, hr⟩ : ∃ r, pickP (PM R) (k, x, nn) B a = r := ⟨_, rfl⟩
  rw [hr]
  have HP : Hid (Pr R w (wr.alloc (.cells #[.int .i64 k, .int .i64 x, .int .i64 nn] 110)) F hb qb a) := p.still ((Keeps.refl _ _).alloc _)
  clear p
  by_cases k1 : k = 1
  · subst k1
    have HR : Hid (runP (PM R) x B 1 a = r) := hr
    clear hr
    go_enter Tryz.func114, Tryz.ntmps114
    go_wp2_with fail
    refine (rmany_any hR HP.out x 1 B hB).mono ?_
    rintro e w1 ⟨d, hd, hl, rfl, hw⟩
    rw [HR.out] at hl hw ⊢
    obtain ⟨b, hbb⟩ : ∃ b, (!r.1) = b := ⟨_, rfl⟩
    rw [hbb]
    have HW : Hid (d ≤ B ∧ r.2.1 = B - d ∧ (!r.1) = b ∧ Pr R w w1 F hb qb r.2.2) := ⟨hd, hl, hbb, hw⟩
    clear hd hl hbb hw HR HP
    go_wp2
    go_ret2
    exact ⟨d, HW.out.1, HW.out.2.1, by rw [HW.out.2.2.1]; rfl, HW.out.2.2.2⟩
  by_cases k2 : k = 2
  · subst k2
    have HR : Hid (runP (PM R) x B nn a = r) := hr
    clear hr
    go_enter Tryz.func114, Tryz.ntmps114
    go_wp2_with fail
    refine (rmany_any hR HP.out x nn B hB).mono ?_
    rintro e w1 ⟨d, hd, hl, rfl, hw⟩
    rw [HR.out] at hl hw ⊢
    obtain ⟨b, hbb⟩ : ∃ b, (!r.1) = b := ⟨_, rfl⟩
    rw [hbb]
    have HW : Hid (d ≤ B ∧ r.2.1 = B - d ∧ (!r.1) = b ∧ Pr R w w1 F hb qb r.2.2) := ⟨hd, hl, hbb, hw⟩
    clear hd hl hbb hw HR HP
    go_wp2
    go_ret2
    exact ⟨d, HW.out.1, HW.out.2.1, by rw [HW.out.2.2.1]; rfl, HW.out.2.2.2⟩
  by_cases k5 : k = 5
  · subst k5
    have HR : Hid (finA (PM R) x B a = r) := hr
    clear hr
    go_enter Tryz.func114, Tryz.ntmps114
    go_wp2_with fail
    refine (rfin_any hR HP.out x B hB).mono ?_
    rintro e w1 ⟨d, hd, hl, rfl, hw⟩
    rw [HR.out] at hl hw ⊢
    obtain ⟨b, hbb⟩ : ∃ b, (!r.1) = b := ⟨_, rfl⟩
    rw [hbb]
    have HW : Hid (d ≤ B ∧ r.2.1 = B - d ∧ (!r.1) = b ∧ Pr R w w1 F hb qb r.2.2) := ⟨hd, hl, hbb, hw⟩
    clear hd hl hbb hw HR HP
    go_wp2
    go_ret2
    exact ⟨d, HW.out.1, HW.out.2.1, by rw [HW.out.2.2.1]; rfl, HW.out.2.2.2⟩
  by_cases k4 : k = 4
  · subst k4
    by_cases h0 : 0 < nn
    · have e0 : 0 ≤ nn := by omega
      have HR : Hid (roundsA (PM R) nn B a = r) := hr
      clear hr
      go_enter Tryz.func114, Tryz.ntmps114
      go_wp2_with fail
      refine (rrounds_any hR HP.out nn nn B hB (.inr ⟨e0, rfl⟩)).mono ?_
      rintro e w1 ⟨d, hd, hl, rfl, hw⟩
      rw [HR.out] at hl hw ⊢
      obtain ⟨b, hbb⟩ : ∃ b, (!r.1) = b := ⟨_, rfl⟩
      rw [hbb]
      have HW : Hid (d ≤ B ∧ r.2.1 = B - d ∧ (!r.1) = b ∧ Pr R w w1 F hb qb r.2.2) := ⟨hd, hl, hbb, hw⟩
      clear hd hl hbb hw HR HP
      go_wp2
      go_ret2
      exact ⟨d, HW.out.1, HW.out.2.1, by rw [HW.out.2.2.1]; rfl, HW.out.2.2.2⟩
    · have e0 : nn ≤ 0 := by omega
      have hr2 : roundsA (PM R) 0 B a = r := (roundsA_end (M := PM R) (a := a) (.inl (Int.le_refl 0))).trans ((roundsA_end (M := PM R) (a := a) (.inl e0)).symm.trans hr)
      have HR : Hid (roundsA (PM R) 0 B a = r) := hr2
      clear hr
      go_enter Tryz.func114, Tryz.ntmps114
      go_wp2_with fail
      refine (rrounds_any hR HP.out 0 0 B hB (.inr ⟨Int.le_refl 0, rfl⟩)).mono ?_
      rintro e w1 ⟨d, hd, hl, rfl, hw⟩
      rw [HR.out] at hl hw ⊢
      obtain ⟨b, hbb⟩ : ∃ b, (!r.1) = b := ⟨_, rfl⟩
      rw [hbb]
      have HW : Hid (d ≤ B ∧ r.2.1 = B - d ∧ (!r.1) = b ∧ Pr R w w1 F hb qb r.2.2) := ⟨hd, hl, hbb, hw⟩
      clear hd hl hbb hw HR HP
      go_wp2
      go_ret2
      exact ⟨d, HW.out.1, HW.out.2.1, by rw [HW.out.2.2.1]; rfl, HW.out.2.2.2⟩
  by_cases k6 : k = 6
  · subst k6
    obtain ⟨Y, hYB, hYr⟩ : ∃ Y : Int, (B : Int) < Y ∧ roundsA (PM R) Y B a = roundsA (PM R) 9223372036854775807 B a := by
      by_cases hm : B = 9223372036854775807
      · exact ⟨9223372036854775808, by omega, hD hm⟩
      · exact ⟨9223372036854775807, by omega, rfl⟩
    have HR : Hid (roundsA (PM R) Y B a = r) := hYr.trans hr
    clear hr hYr hD
    go_enter Tryz.func114, Tryz.ntmps114
    go_wp2_with fail
    refine (rrounds_any hR HP.out (-1) Y B hB (.inl ⟨by omega, hYB⟩)).mono ?_
    rintro e w1 ⟨d, hd, hl, rfl, hw⟩
    rw [HR.out] at hl hw ⊢
    obtain ⟨b, hbb⟩ : ∃ b, (!r.1) = b := ⟨_, rfl⟩
    rw [hbb]
    have HW : Hid (d ≤ B ∧ r.2.1 = B - d ∧ (!r.1) = b ∧ Pr R w w1 F hb qb r.2.2) := ⟨hd, hl, hbb, hw⟩
    clear hd hl hbb hw HR HP
    go_wp2
    go_ret2
    exact ⟨d, HW.out.1, HW.out.2.1, by rw [HW.out.2.2.1]; rfl, HW.out.2.2.2⟩
  have hr' : pickP (PM R) (k, x, nn) B a = (true, B, a) := by
    unfold pickP
    dsimp only
    rw [if_neg k1, if_neg k2, if_neg k5, if_neg k4, if_neg k6]
    rfl
  rw [hr'] at hr
  subst hr
  clear hr'
  go_enter Tryz.func114, Tryz.ntmps114
  go_wp2
  go_ret2
  exact ⟨0, Nat.zero_le _, rfl, rfl, HP.out⟩
end Go.Proofs.YtdpebhdjcgiboaaGreat

namespace Go.Proofs.YtdpebhdjcgiboaaGreat
open Go.ChangeShapes Go.WideShapes Go.ChangeAt Go.RowKit Go.MuLone Go.RwLone
set_option linter.unusedVariables false
set_option maxRecDepth 100000
set_option maxHeartbeats 3200000
theorem playP_ok {M : Mc} {vs : List (Int × Int × Int)} {t l : Nat} {a : Hp × M.σ} {k x nn : Int} (h4 : t < vs.length) (hp : vs[t] = (k, x, nn)) (hok : (pickP M (k, x, nn) l a).1 = true) : playP M (vs.drop t) l a = playP M (vs.drop (t + 1)) (pickP M (k, x, nn) l a).2.1 (pickP M (k, x, nn) l a).2.2 := by
  rw [List.drop_eq_getElem_cons h4, hp]
  conv => lhs; unfold playP
  rw [if_pos hok]
theorem playP_no {M : Mc} {vs : List (Int × Int × Int)} {t l : Nat} {a : Hp × M.σ} {k x nn : Int} (h4 : t < vs.length) (hp : vs[t] = (k, x, nn)) (hok : (pickP M (k, x, nn) l a).1 = false) : playP M (vs.drop t) l a = pickP M (k, x, nn) l a := by
  rw [List.drop_eq_getElem_cons h4, hp]
  conv => lhs; unfold playP
  rw [if_neg (by rw [hok]; decide)]
theorem playP_end {M : Mc} {vs : List (Int × Int × Int)} {t l : Nat} {a : Hp × M.σ} (h4 : ¬ t < vs.length) : playP M (vs.drop t) l a = (true, l, a) := by
  rw [List.drop_of_length_le (by omega)]
  rfl
/-- The code of a play that bore, or did not. -/
def erC (b : Bool) : Int := if b then 0 else 34
theorem rplay_gen {R : Rd} (hR : RdOk R) {w : World} {F : Nat → Prop} {hb qb : Nat} {a : Hp × Ls} (p : Pr R w w F hb qb a) (B : Nat) (hB : B ≤ 9223372036854775807) (J : Hp × Ls → Prop) (j0 : J a) (j1 : ∀ (a : Hp × Ls) (p : Int × Int × Int) (l : Nat), J a → J (pickP (PM R) p l a).2.2) (j2 : ∀ a : Hp × Ls, J a → B = 9223372036854775807 → roundsA (PM R) 9223372036854775808 B a = roundsA (PM R) 9223372036854775807 B a) (v : Value) (vs : List (Int × Int × Int)) (hv : PkR w (fun x => F x ∨ fRw R x) v vs) :
    Calls Tryz.prog 66 #[.pointer (some ⟨hb, 0, none⟩), .int .i64 (B : Int), v] w fun e w' => ∃ d : Nat, d ≤ B ∧ (playP (PM R) vs B a).2.1 = B - d ∧ e = .returned (.tuple #[.int .i64 (d : Int), .int .i64 (erC (playP (PM R) vs B a).1)]) ∧ Pr R w w' F hb qb (playP (PM R) vs B a).2.2 := by
  obtain ⟨r, hr⟩ : ∃ r, playP (PM R) vs B a = r := ⟨_, rfl⟩
  rw [hr]
  have HP : Hid (Pr R w w F hb qb a ∧ playP (PM R) vs B a = r ∧ J a) := ⟨p, hr, j0⟩
  have HJ : Hid ((∀ (a : Hp × Ls) (p : Int × Int × Int) (l : Nat), J a → J (pickP (PM R) p l a).2.2) ∧ ∀ a : Hp × Ls, J a → B = 9223372036854775807 → roundsA (PM R) 9223372036854775808 B a = roundsA (PM R) 9223372036854775807 B a) := ⟨j1, j2⟩
  have HV : Hid (PkR w (fun x => F x ∨ fRw R x) v vs) := hv
  obtain ⟨ao, cap, rfl, hlen, -, -⟩ := hv
  have hb0 : ¬ (B : Int) < 0 := by omega
  clear p hr j0 j1 j2
  go_enter Tryz.func66, Tryz.ntmps66
  go_wp2_with fail
  go_loopw [8, 9] (fun c8 c9 wq => ∃ (t d : Nat) (a' : Hp × Ls), c8 = .int .i64 (d : Int) ∧ c9 = .int .i64 (t : Int) ∧ t ≤ vs.length ∧ d ≤ B ∧ Pr R w wq F hb qb a' ∧ playP (PM R) (vs.drop t) (B - d) a' = r ∧ J a') (fun _ c9 _ => vs.length - (intOf c9).toNat)
  case atStart => exact ⟨0, 0, a, rfl, rfl, by omega, Nat.zero_le _, HP.out.1, HP.out.2.1, HP.out.2.2⟩
  case round =>
    obtain ⟨t, d, a', rfl, rfl, ht, hd, hp, hr, hj⟩ := hrel
    have HJA : Hid (J a') := hj
    clear hj
    have HQ : Hid (Pr R w wr F hb qb a' ∧ playP (PM R) (vs.drop t) (B - d) a' = r) := ⟨hp, hr⟩
    clear hr HP
    by_cases h4 : t < vs.length
    · obtain ⟨ao', cap', e1, -, -, h3⟩ := HV.out.keeps hp.k (fun x e => .inl e)
      injection e1 with e1 e2 e3
      subst e1 e3
      obtain ⟨b, off, rfl, -, -, q0, q1, q2⟩ := h3 t h4
      have t0 : (0 : Int) ≤ (t : Int) := Int.natCast_nonneg _
      have t1 : (t : Int) < (vs.length : Int) := by omega
      clear h3 e2 hp
      obtain ⟨⟨k, x, nn⟩, hp⟩ : ∃ p, vs[t] = p := ⟨_, rfl⟩
      rw [hp] at q0 q1 q2
      dsimp only at q0 q1 q2
      have HPK : Hid (vs[t] = (k, x, nn)) := hp
      have HB4 : Hid (t < vs.length) := h4
      clear hp
      have hw : IntKind.i64.wrap ((B : Int) - (d : Int)) = ((B - d : Nat) : Int) := by rw [IntKind.wrap_i64]; omega
      go_wp2_with fail
      refine (rone_any hR HQ.out.1 k x nn (B - d) (by omega) (fun e => by
        have hd0 : d = 0 := by omega
        subst hd0
        exact HJ.out.2 a' HJA.out (by omega))).mono ?_
      rintro e w5 ⟨d5, hd5, hl5, rfl, p5⟩
      have hw5 : IntKind.i64.wrap ((d : Int) + (d5 : Int)) = ((d + d5 : Nat) : Int) := by rw [IntKind.wrap_i64]; omega
      by_cases hok : (pickP (PM R) (k, x, nn) (B - d) a').1 = true
      · have H5 : Hid (Pr R w w5 F hb qb (pickP (PM R) (k, x, nn) (B - d) a').2.2 ∧ playP (PM R) (vs.drop (t + 1)) (B - (d + d5)) (pickP (PM R) (k, x, nn) (B - d) a').2.2 = r ∧ J (pickP (PM R) (k, x, nn) (B - d) a').2.2) := ⟨p5, by
          have q := (playP_ok (M := PM R) (a := a') HB4.out HPK.out hok).symm.trans HQ.out.2
          rw [hl5, show B - d - d5 = B - (d + d5) from by omega] at q
          exact q, HJ.out.1 a' _ _ HJA.out⟩
        rw [hok]
        have hdd : d + d5 ≤ B := by omega
        clear p5 HQ q0 q1 q2 hok hl5 hw
        go_wp2
        go_roundw
        case rel => exact ⟨t + 1, d + d5, _, by first | rfl | go_num, by go_num, by omega, hdd, H5.out.1, H5.out.2.1, H5.out.2.2⟩
        case measure => simp only [intOf]; omega
      · have hok' : (pickP (PM R) (k, x, nn) (B - d) a').1 = false := by simpa using hok
        have H5 : Hid (Pr R w w5 F hb qb (pickP (PM R) (k, x, nn) (B - d) a').2.2 ∧ r = pickP (PM R) (k, x, nn) (B - d) a' ∧ (pickP (PM R) (k, x, nn) (B - d) a').2.1 = B - (d + d5) ∧ (pickP (PM R) (k, x, nn) (B - d) a').1 = false) := ⟨p5, HQ.out.2.symm.trans (playP_no (M := PM R) (a := a') HB4.out HPK.out hok'), by omega, hok'⟩
        rw [hok']
        have hdd : d + d5 ≤ B := by omega
        clear p5 HQ q0 q1 q2 hok hok' hl5 hw
        go_wp2
        go_ret2
        rw [H5.out.2.1]
        exact ⟨d + d5, hdd, H5.out.2.2.1, by rw [H5.out.2.2.2]; rfl, H5.out.1⟩
    · have HR : Hid (r = (true, B - d, a')) := HQ.out.2.symm.trans (playP_end (M := PM R) (a := a') h4)
      clear hp
      go_wp2
      go_ret2
      rw [HR.out]
      exact ⟨d, hd, rfl, rfl, HQ.out.1⟩
theorem rplay_any {R : Rd} (hR : RdOk R) {w : World} {F : Nat → Prop} {hb qb : Nat} {a : Hp × Ls} (p : Pr R w w F hb qb a) (B : Nat) (hB : B ≤ 4611686018427387904) (v : Value) (vs : List (Int × Int × Int)) (hv : PkR w (fun x => F x ∨ fRw R x) v vs) :
    Calls Tryz.prog 66 #[.pointer (some ⟨hb, 0, none⟩), .int .i64 (B : Int), v] w fun e w' => ∃ d : Nat, d ≤ B ∧ (playP (PM R) vs B a).2.1 = B - d ∧ e = .returned (.tuple #[.int .i64 (d : Int), .int .i64 (erC (playP (PM R) vs B a).1)]) ∧ Pr R w w' F hb qb (playP (PM R) vs B a).2.2 :=
  rplay_gen hR p B (by omega) (fun _ => True) trivial (fun _ _ _ _ => trivial) (fun _ _ e => by omega) v vs hv
end Go.Proofs.YtdpebhdjcgiboaaGreat

namespace Go.Proofs.YtdpebhdjcgiboaaGreat
open Go.ChangeShapes Go.WideShapes Go.ChangeAt Go.RowKit Go.MuLone Go.RwLone
set_option linter.unusedVariables false
set_option maxRecDepth 100000
set_option maxHeartbeats 3200000
theorem infoQ1 : (Tryz.prog.info? 217).map (fun i => (i.zero, i.size, i.bytes)) = some (some (.slice none 0 0), 1, 24) := by kernel_rfl
/-- The document's New. -/
theorem rnew_any (w : World) (n bk : Nat) (h1 : 1 ≤ n) (h2 : n ≤ 16) :
    Calls Tryz.prog 34 #[.int .i64 (n : Int), .pointer (some ⟨bk, 0, none⟩)] w fun e w' => e = .returned (.tuple #[.pointer (some ⟨w.heap.size + 1, 0, none⟩), .int .i64 0]) ∧ w' = (w.alloc (.cells (madeCells #[.slice none 0 0] n) 217)).alloc (.cells (haR bk w.heap.size n 0 (.slice none 0 0) (.slice none 0 0)) 158) := by
  have i1 : ¬ (n : Int) < 1 := by omega
  have i2 : ¬ (n : Int) > 16 := by omega
  have hm := run_make_any (P := Tryz.prog) 156 217 _ 1 24 Tryz.underlying156 infoQ1 n (by omega) (by omega)
  go_enter Tryz.func34, Tryz.ntmps34
  go_wp2
  go_ret2
  exact ⟨by simp, rfl⟩
end Go.Proofs.YtdpebhdjcgiboaaGreat
