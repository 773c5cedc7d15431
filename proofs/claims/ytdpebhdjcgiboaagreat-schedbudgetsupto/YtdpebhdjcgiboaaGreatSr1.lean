import Derived.Test.YtdpebhdjcgiboaaGreatSg9
namespace Go.Proofs.YtdpebhdjcgiboaaGreat
set_option linter.unusedSimpArgs false
open Go.ChangeShapes Go.WideShapes Go.ChangeAt Go.RowKit Go.MuLone Go.RwLone
set_option linter.unusedVariables false
set_option maxRecDepth 100000
set_option maxHeartbeats 3200000
/-- Where the document's program lies. -/
structure Rd where
  bk : Nat
  tb : Nat
  cb : Nat
  rb : Nat → Nat
  ia : Nat → Option Addr
  icap : Nat → Nat
  wd : Nat
  n : Nat
  cc : Nat
  tc : Nat
  ins : Nat → List I8
/-- The blocks that its steps write. -/
def fRw (R : Rd) (y : Nat) : Prop := y = R.tb ∨ y = R.cb ∨ ∃ j, j < R.n ∧ y = R.rb j
/-- All of its blocks. -/
def fR (R : Rd) (y : Nat) : Prop := fRw R y ∨ y = R.bk ∨ ∃ j, j < R.n ∧ R.ia j = some ⟨y, 0, none⟩
structure RdOk (R : Rd) : Prop where
  bk : ¬ fRw R R.bk
  tc : R.tb ≠ R.cb
  tr : ∀ j, j < R.n → R.rb j ≠ R.tb ∧ R.rb j ≠ R.cb
  rr : ∀ i j, i < R.n → j < R.n → i ≠ j → R.rb i ≠ R.rb j
  ib : ∀ j ib, j < R.n → R.ia j = some ⟨ib, 0, none⟩ → ¬ fRw R ib
  sd : ∀ i, i < R.n → ∀ x ∈ R.ins i, snd R.wd x
  ln : ∀ i, i < R.n → (R.ins i).length ≤ 1000
  n4 : R.n ≤ 4
structure RP (R : Rd) (w : World) (s : Ls) : Prop where
  p0 : w.cell? ⟨R.bk, 0, none⟩ = some (.slice (some ⟨R.cb, 0, none⟩) R.wd R.cc)
  p1 : w.cell? ⟨R.bk, 1, none⟩ = some (.slice (some ⟨R.tb, 0, none⟩) R.n R.tc)
  t0 : ∀ i, i < R.n → w.cell? ⟨R.tb, i * 3, none⟩ = some (.slice (R.ia i) (R.ins i).length (R.icap i))
  t1 : ∀ i, i < R.n → w.cell? ⟨R.tb, i * 3 + 1, none⟩ = some (.slice (some ⟨R.rb i, 0, none⟩) 4 4)
  t2 : ∀ i, i < R.n → w.cell? ⟨R.tb, i * 3 + 2, none⟩ = some (.int .i64 (s.pl i : Int))
  rg : ∀ i j, i < R.n → j < 4 → w.cell? ⟨R.rb i, j, none⟩ = some (.int .u64 (s.rg i j))
  ce : ∀ c, c < R.wd → w.cell? ⟨R.cb, c, none⟩ = some (.int .u64 (s.wo c))
  ro : ∀ i, i < R.n → Ro w (R.ia i) (R.ins i)
  fz : ∀ g j, fRw R g → w.frozen? ⟨g, j, none⟩ = false
  lt : ∀ y, fR R y → y < w.heap.size
theorem RP.keeps {R : Rd} {w w' : World} {s : Ls} {D : Nat → Prop} (h : RP R w s) (k : Keeps D w w') (hD : ∀ y, D y → ¬ fR R y) : RP R w' s := by
  have e : ∀ g j, fR R g → w'.cell? ⟨g, j, none⟩ = w.cell? ⟨g, j, none⟩ := fun g j hg => k.cell (p := ⟨g, j, none⟩) (h.lt g hg) (fun e => hD g e hg)
  exact ⟨(e _ _ (.inr (.inl rfl))).trans h.p0, (e _ _ (.inr (.inl rfl))).trans h.p1, fun i hi => (e _ _ (.inl (.inl rfl))).trans (h.t0 i hi), fun i hi => (e _ _ (.inl (.inl rfl))).trans (h.t1 i hi), fun i hi => (e _ _ (.inl (.inl rfl))).trans (h.t2 i hi), fun i j hi hj => (e _ _ (.inl (.inr (.inr ⟨i, hi, rfl⟩)))).trans (h.rg i j hi hj), fun c hc => (e _ _ (.inl (.inr (.inl rfl)))).trans (h.ce c hc), fun i hi => (h.ro i hi).keeps k (fun ib e' e'' => hD ib e'' (.inr (.inr ⟨i, hi, e'⟩))), fun g j hg => (k.frozen (p := ⟨g, j, none⟩) (h.lt g (.inl hg)) (fun e => hD g e (.inl hg))).trans (h.fz g j hg), fun y hy => Nat.lt_of_lt_of_le (h.lt y hy) k.size⟩
theorem RP.still {R : Rd} {w w' : World} {s : Ls} (h : RP R w s) (k : Keeps (fun _ => False) w w') : RP R w' s := h.keeps k (fun _ e => e.elim)
theorem RP.set {R : Rd} (hR : RdOk R) {w : World} {s s' : Ls} {g j : Nat} {v : Value} (h : RP R w s) (hg : fRw R g)
    (h0 : ∀ i, i < R.n → ¬ (g = R.tb ∧ j = i * 3)) (h1 : ∀ i, i < R.n → ¬ (g = R.tb ∧ j = i * 3 + 1))
    (t2 : ∀ i, i < R.n → (w.setCell ⟨g, j, none⟩ v).cell? ⟨R.tb, i * 3 + 2, none⟩ = some (.int .i64 (s'.pl i : Int)))
    (rg : ∀ i k, i < R.n → k < 4 → (w.setCell ⟨g, j, none⟩ v).cell? ⟨R.rb i, k, none⟩ = some (.int .u64 (s'.rg i k)))
    (ce : ∀ c, c < R.wd → (w.setCell ⟨g, j, none⟩ v).cell? ⟨R.cb, c, none⟩ = some (.int .u64 (s'.wo c))) : RP R (w.setCell ⟨g, j, none⟩ v) s' := by
  have o : ∀ g' j', (g' ≠ g ∨ j' ≠ j) → (w.setCell ⟨g, j, none⟩ v).cell? ⟨g', j', none⟩ = w.cell? ⟨g', j', none⟩ := fun g' j' hn => World.cell?_setCell_other _ _ _ _ (fun e => hn.elim (fun hn => hn (congrArg Addr.block e).symm) (fun hn => hn (congrArg Addr.off e).symm))
  have k : Keeps (fun y => y = g) w (w.setCell ⟨g, j, none⟩ v) := Keeps.setCell (B := fun y => y = g) (Keeps.refl _ _) rfl _
  have nb : R.bk ≠ g := fun e => hR.bk (e ▸ hg)
  refine ⟨(o _ _ (.inl nb)).trans h.p0, (o _ _ (.inl nb)).trans h.p1, fun i hi => (o _ _ ?_).trans (h.t0 i hi), fun i hi => (o _ _ ?_).trans (h.t1 i hi), t2, rg, ce, fun i hi => (h.ro i hi).keeps k (fun ib e e' => hR.ib i ib hi e (e' ▸ hg)), fun g' j' hg' => by simpa using h.fz g' j' hg', fun y hy => by simpa using h.lt y hy⟩
  · by_cases e : R.tb = g
    · exact .inr (fun e' => h0 i hi ⟨e.symm, e'.symm⟩)
    · exact .inl e
  · by_cases e : R.tb = g
    · exact .inr (fun e' => h1 i hi ⟨e.symm, e'.symm⟩)
    · exact .inl e
theorem RP.setPl {R : Rd} (hR : RdOk R) {w : World} {s : Ls} (h : RP R w s) (i x : Nat) (hi : i < R.n) : RP R (w.setCell ⟨R.tb, i * 3 + 2, none⟩ (.int .i64 (x : Int))) ⟨s.wo, s.rg, upd s.pl i x⟩ := by
  refine h.set hR (.inl rfl) (fun k _ e => by omega) (fun k _ e => by omega) (fun k hk => ?_) (fun k j hk hj => ?_) (fun c hc => ?_)
  · by_cases e : k = i
    · subst e
      show _ = some (Value.int .i64 ((upd s.pl k x k : Nat) : Int))
      rw [upd_same]
      exact World.cell?_setCell_same _ _ _ (h.t2 k hk)
    · show _ = some (Value.int .i64 ((upd s.pl i x k : Nat) : Int))
      rw [upd_other _ _ e, World.cell?_setCell_other _ _ _ _ (fun e' => by have := congrArg Addr.off e'; simp at this; omega)]
      exact h.t2 k hk
  · rw [World.cell?_setCell_other _ _ _ _ (fun e' => (hR.tr k hk).1 (congrArg Addr.block e').symm)]
    exact h.rg k j hk hj
  · rw [World.cell?_setCell_other _ _ _ _ (fun e' => hR.tc (congrArg Addr.block e'))]
    exact h.ce c hc
theorem RP.setRg {R : Rd} (hR : RdOk R) {w : World} {s : Ls} (h : RP R w s) (i j : Nat) (x : Int) (hi : i < R.n) (hj : j < 4) : RP R (w.setCell ⟨R.rb i, j, none⟩ (.int .u64 x)) ⟨s.wo, upd s.rg i (upd (s.rg i) j x), s.pl⟩ := by
  refine h.set hR (.inr (.inr ⟨i, hi, rfl⟩)) (fun k _ e => (hR.tr i hi).1 e.1) (fun k _ e => (hR.tr i hi).1 e.1) (fun k hk => ?_) (fun k m hk hm => ?_) (fun c hc => ?_)
  · rw [World.cell?_setCell_other _ _ _ _ (fun e' => (hR.tr i hi).1 (congrArg Addr.block e'))]
    exact h.t2 k hk
  · show _ = some (Value.int .u64 (upd s.rg i (upd (s.rg i) j x) k m))
    by_cases e : k = i
    · subst e
      rw [upd_same]
      by_cases e2 : m = j
      · subst e2
        rw [upd_same]
        exact World.cell?_setCell_same _ _ _ (h.rg k m hk hm)
      · rw [upd_other _ _ e2, World.cell?_setCell_other _ _ _ _ (fun e' => e2 (congrArg Addr.off e').symm)]
        exact h.rg k m hk hm
    · rw [upd_other _ _ e, World.cell?_setCell_other _ _ _ _ (fun e' => hR.rr i k hi hk (fun e3 => e e3.symm) (congrArg Addr.block e'))]
      exact h.rg k m hk hm
  · rw [World.cell?_setCell_other _ _ _ _ (fun e' => (hR.tr i hi).2 (congrArg Addr.block e'))]
    exact h.ce c hc
theorem RP.setWo {R : Rd} (hR : RdOk R) {w : World} {s : Ls} (h : RP R w s) (c : Nat) (x : Int) (hc : c < R.wd) : RP R (w.setCell ⟨R.cb, c, none⟩ (.int .u64 x)) ⟨upd s.wo c x, s.rg, s.pl⟩ := by
  refine h.set hR (.inr (.inl rfl)) (fun k _ e => hR.tc e.1.symm) (fun k _ e => hR.tc e.1.symm) (fun k hk => ?_) (fun k m hk hm => ?_) (fun d hd => ?_)
  · rw [World.cell?_setCell_other _ _ _ _ (fun e' => hR.tc (congrArg Addr.block e').symm)]
    exact h.t2 k hk
  · rw [World.cell?_setCell_other _ _ _ _ (fun e' => (hR.tr k hk).2 (congrArg Addr.block e').symm)]
    exact h.rg k m hk hm
  · show _ = some (Value.int .u64 (upd s.wo c x d))
    by_cases e : d = c
    · subst e
      rw [upd_same]
      exact World.cell?_setCell_same _ _ _ (h.ce d hd)
    · rw [upd_other _ _ e, World.cell?_setCell_other _ _ _ _ (fun e' => e (congrArg Addr.off e').symm)]
      exact h.ce d hd
/-- What the document's Val stands for. -/
theorem rvalue_any (w : World) (R : Rd) (s : Ls) (h : RP R w s) (i : Nat) (hi : i < R.n) (r x : Int) (hr : r ≤ 3) : Calls Tryz.prog 117 #[.agg #[.int .i64 r, .int .u64 x], .slice (some ⟨R.rb i, 0, none⟩) 4 4] w fun e w' => e = .returned (.int .u64 (valP (s.rg i) r x)) ∧ Keeps (fun _ => False) w w' := by
  by_cases h0 : r < 0
  · have hv : valP (s.rg i) r x = x := by unfold valP; rw [if_pos (.inl h0)]
    rw [hv]
    have hn : ¬ 0 ≤ r := by omega
    go_enter Tryz.func117, Tryz.ntmps117
    go_wp2
    go_ret
    exact ⟨rfl, (Keeps.refl _ _).alloc _⟩
  · obtain ⟨k, rfl⟩ : ∃ k : Nat, r = (k : Int) := ⟨r.toNat, by omega⟩
    have hk : k < 4 := by omega
    have hv : valP (s.rg i) k x = IntKind.u64.wrap (x + s.rg i k) := by unfold valP; rw [if_neg (by omega), IntKind.wrap_u64]; rfl
    rw [hv]
    have HB : Hid (Keeps (fun _ => False) w (w.alloc (.cells #[.int .i64 (k : Int), .int .u64 x] 104))) := (Keeps.refl _ _).alloc _
    have cT : (w.alloc (.cells #[.int .i64 (k : Int), .int .u64 x] 104)).cell? ⟨R.rb i, k, none⟩ = some (.int .u64 (s.rg i k)) := (h.still HB.out).rg i k hi hk
    have k0 : (0 : Int) ≤ (k : Int) := Int.natCast_nonneg _
    have k1 : (k : Int) < 4 := by omega
    have b0 : (w.alloc (.cells #[.int .i64 (k : Int), .int .u64 x] 104)).cell? ⟨w.heap.size, 0, none⟩ = some (.int .i64 (k : Int)) := (cell?_heap (heap_alloc_last _ _ _ rfl) 0).trans rfl
    have b1 : (w.alloc (.cells #[.int .i64 (k : Int), .int .u64 x] 104)).cell? ⟨w.heap.size, 1, none⟩ = some (.int .u64 x) := (cell?_heap (heap_alloc_last _ _ _ rfl) 1).trans rfl
    clear h
    go_enter Tryz.func117, Tryz.ntmps117
    go_wp2_with fail
    generalize w.alloc (.cells #[.int .i64 (k : Int), .int .u64 x] 104) = W at *
    generalize w.heap.size = g at *
    (refine wp_region_held_drew (S := (fun V => V.cell? ⟨g, 0, none⟩ = some (.int .i64 (k : Int)) ∧ V.cell? ⟨g, 1, none⟩ = some (.int .u64 x) ∧ V.cell? ⟨R.rb i, k, none⟩ = some (.int .u64 (s.rg i k)))) (by kernel_rfl) ⟨b0, b1, cT⟩ (fun hHeld => ?_); simp only [List.size_toArray, List.length_cons, List.length_nil, Nat.reduceAdd, Array.replicate_succ, Array.replicate_zero, List.push_toArray, List.append_toArray, List.nil_append, List.cons_append])
    refine rgT 0 (h := ?_)
    refine rgT 1 (h := ?_)
    refine rgT 2 (h := ?_)
    refine rgT 3 (h := ?_)
    refine rgT 4 (h := ?_)
    refine rgT 5 (h := ?_)
    refine rgT 6 (h := ?_)
    refine rgT 7 (h := ?_)
    refine rgT 8 (h := ?_)
    refine wpAnyH_done (by kernel_rfl) ?_ _
    go_wp2
    go_ret
    exact ⟨rfl, HB.out.drew⟩
end Go.Proofs.YtdpebhdjcgiboaaGreat
