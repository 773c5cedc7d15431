import Derived.Test.YtdpebhdjcgiboaaGreatSm2
import Derived.LaidEqlPtr
import Derived.Lib.Builder
namespace Go.Proofs.YtdpebhdjcgiboaaGreat
set_option linter.unusedSimpArgs false
open Go.ChangeShapes Go.WideShapes Go.ChangeAt Go.RowKit Go.MuLone Go.RwLone
set_option linter.unusedVariables false
set_option maxRecDepth 100000
set_option maxHeartbeats 6400000
section
variable {w w' : World} {G H P Q : Nat → Prop} {B : Bd} {bb b1 b2 : Nat} {tv : Value} {R : Rd} {r1 r2 hb qb rb sb : Nat} {a0 : Hp} {pa ra : Hp × Ls}
/-- A thread of the program was stepped by hand; one of the document's. -/
theorem Q4.thr {s' : Ls} (q : Q4 w G H P Q B bb b1 b2 tv R r1 r2 hb qb rb sb a0 pa ra) (o : Bo B w' s') (k : Keeps (fB B) w w') : Q4 w' G H P Q B bb b1 b2 tv R r1 r2 hb qb rb sb a0 (pa.1, s') ra ∧ Keeps (U4 G H P Q) w w' := by
  obtain ⟨v1, v2, v3, m⟩ := q.m
  obtain ⟨u1, u2, u3, n⟩ := q.n
  exact ⟨⟨q.b.moved (D := fun _ => False) o (k.mono (fun _ e => .inr e)) (fun _ e => e.elim), q.r.keeps k (fun y e e' => q.gh y (q.b.lo y e) e'), ⟨v1, v2, v3, m.keeps k (fun y e e' => q.gp y (q.b.lo y e) e')⟩, ⟨u1, u2, u3, n.keeps k (fun y e e' => q.gq y (q.b.lo y e) e')⟩, q.gh, q.gp, q.gq, q.hp, q.hq, q.pq⟩, k.mono (fun y e => .inl (q.b.lo y e))⟩
theorem Q4.thrD (hR : RdOk R) {s' : Ls} (q : Q4 w G H P Q B bb b1 b2 tv R r1 r2 hb qb rb sb a0 pa ra) (o : RP R w' s') (k : Keeps (fRw R) w w') : Q4 w' G H P Q B bb b1 b2 tv R r1 r2 hb qb rb sb a0 pa (ra.1, s') ∧ Keeps (U4 G H P Q) w w' := by
  obtain ⟨v1, v2, v3, m⟩ := q.m
  obtain ⟨u1, u2, u3, n⟩ := q.n
  have fr : ∀ y, fRw R y → H y := fun y e => q.r.fr y (.inl e)
  exact ⟨⟨q.b.keeps k (fun y e e' => q.gh y e' (fr y e)), q.r.moved hR (D := fun _ => False) o (k.mono (fun _ e => .inr e)) (fun _ e => e.elim), ⟨v1, v2, v3, m.keeps k (fun y e e' => q.hp y (fr y e) e')⟩, ⟨u1, u2, u3, n.keeps k (fun y e e' => q.hq y (fr y e) e')⟩, q.gh, q.gp, q.gq, q.hp, q.hq, q.pq⟩, k.mono (fun y e => .inr (.inl (fr y e)))⟩
end
theorem eqNilT (w : World) (x : Option Addr) : (binOp .eql 31 (.pointer x) (.pointer none)).run Tryz.prog w = .ok (.bool x.isNone) w := by
  cases x <;> kernel_rfl
/-- A thread stepped by hand, on both sides. -/
theorem mv_thread (w : World) (G H P Q : Nat → Prop) (B : Bd) (bb b1 b2 : Nat) (tv : Value) (R : Rd) (r1 r2 hb qb rb sb sd : Nat) (a0 : Hp) (a : Hp × Ls) (ts : List (List I8)) (wd c nw : Nat) (p : PSt w G H P Q B bb b1 b2 tv R r1 r2 hb qb rb sb sd a0 a ts wd c nw) (wh tg nn : Int) (pa : Option Addr) (pn pc : Nat) (ma : Option Addr) (mn mc : Nat) :
    Calls Tryz.prog 35 #[.pointer (some ⟨sd, 0, none⟩), .agg (opC 10 wh tg nn (.slice pa pn pc) (.slice ma mn mc))] w fun e w' => e = .returned (.bool true) ∧ MvP w G H P Q B bb b1 b2 tv R r1 r2 hb qb rb sb sd a0 ts wd c nw w' := by
  have k0 : Keeps (fun _ => False) w (opW w 10 wh tg nn (.slice pa pn pc) (.slice ma mn mc)) := (Keeps.refl _ _).alloc _
  have sz : (opW w 10 wh tg nn (.slice pa pn pc) (.slice ma mn mc)).heap.size = w.heap.size + 1 := szAl _ _
  have HP0 : Hid (PSt w G H P Q B bb b1 b2 tv R r1 r2 hb qb rb sb sd a0 a ts wd c nw) := p
  have HS : Hid (∀ W D, Keeps D (opW w 10 wh tg nn (.slice pa pn pc) (.slice ma mn mc)) W → (∀ y, D y → U4 G H P Q y ∨ w.heap.size < y) → _) := fun W D k hD => p.cells 10 wh tg nn (.slice pa pn pc) (.slice ma mn mc) W D k hD
  have HQ : Hid (∀ W, Keeps (fun _ => False) (opW w 10 wh tg nn (.slice pa pn pc) (.slice ma mn mc)) W → PSt W G H P Q B bb b1 b2 tv R r1 r2 hb qb rb sb sd a0 a ts wd c nw) := fun W k => p.still (k0.trans k)
  have HK0 : Hid (Keeps (fun _ => False) w (opW w 10 wh tg nn (.slice pa pn pc) (.slice ma mn mc))) := k0
  have hnB : B.n = ts.length := p.ok.n1
  have hnR : R.n = ts.length := p.ok.n2
  have HF : Hid (∀ W, Keeps (fun _ => False) (opW w 10 wh tg nn (.slice pa pn pc) (.slice ma mn mc)) W → W.cell? ⟨sd, 1, none⟩ = some (.pointer (some ⟨bb, 0, none⟩)) ∧ W.cell? ⟨sd, 3, none⟩ = some (.pointer (some ⟨R.bk, 0, none⟩)) ∧ W.cell? ⟨w.heap.size, 3, none⟩ = some (.int .i64 nn) ∧ W.cell? ⟨R.bk, 1, none⟩ = some (.slice (some ⟨R.tb, 0, none⟩) ts.length R.tc)) := fun W k => by
    have h := HS.out W (fun _ => False) k (fun _ e => e.elim)
    refine ⟨h.1.2.1, h.1.2.2.2, h.2.2.2.1, ?_⟩
    have := (HQ.out W k).q.r.o.p1
    rw [hnR] at this
    exact this
  have HT : Hid (∀ W, Keeps (fun _ => False) (opW w 10 wh tg nn (.slice pa pn pc) (.slice ma mn mc)) W → Calls Tryz.prog 39 #[.pointer (some ⟨bb, 0, none⟩), .int .i64 nn] W fun e w' => e = .returned (.pointer (thO B nn)) ∧ w' = W) := fun W k => bthread W B bb b1 tv (HQ.out W k).q.b.be (HQ.out W k).q.b.ot nn
  obtain ⟨f1, f3, f4, f5⟩ := HF.out (opW w 10 wh tg nn (.slice pa pn pc) (.slice ma mn mc)).drew (Keeps.refl _ _).drew
  obtain ⟨nT, hnT⟩ : ∃ nT, ts.length = nT := ⟨_, rfl⟩
  have HNT : Hid (ts.length = nT) := hnT
  rw [hnT] at f5
  clear p
  by_cases hx0 : nn < 0
  · have hto : thO B nn = none := by unfold thO; rw [if_neg (by omega)]
    have HTO : Hid (thO B nn = none) := hto
    clear hto hnB hnR hnT
    go_enter Tryz.func35, Tryz.ntmps35
    go_wp2_with fail
    (refine wp_region_held_drew (S := (fun W => W.cell? ⟨w.heap.size, 3, none⟩ = some (.int .i64 nn))) (by kernel_rfl) f4 (fun hHeld => ?_); simp only [List.size_toArray, List.length_cons, List.length_nil, Nat.reduceAdd, Array.replicate_succ, Array.replicate_zero, List.push_toArray, List.append_toArray, List.nil_append, List.cons_append])
    refine rgT 0 (h := ?_)
    refine rgT 1 (h := ?_)
    refine rgT 2 (h := ?_)
    refine rgT 3 (h := ?_)
    refine rgK 4 (h := ?_)
    refine rgK 5 (h := ?_)
    refine rgK 6 (h := ?_)
    refine rgK 7 (h := ?_)
    refine rgK 8 (h := ?_)
    refine rgK 9 (h := ?_)
    refine rgK 10 (h := ?_)
    refine rgK 11 (h := ?_)
    refine rgK 12 (h := ?_)
    refine rgK 13 (h := ?_)
    refine rgK 14 (h := ?_)
    refine rgK 15 (h := ?_)
    refine rgT 16 (h := ?_)
    refine wpAnyH_done (by kernel_rfl) ?_ _
    go_wp2_with fail
    (refine wp_region_held_drew (S := (fun W => W.cell? ⟨sd, 1, none⟩ = some (.pointer (some ⟨bb, 0, none⟩)) ∧ W.cell? ⟨w.heap.size, 3, none⟩ = some (.int .i64 nn))) (by kernel_rfl) ⟨f1, f4⟩ (fun hHeld => ?_); simp only [List.size_toArray, List.length_cons, List.length_nil, Nat.reduceAdd, Array.replicate_succ, Array.replicate_zero, List.push_toArray, List.append_toArray, List.nil_append, List.cons_append])
    refine rgT 0 (h := ?_)
    refine rgT 1 (h := ?_)
    refine rgT 2 (h := ?_)
    refine rgT 3 (h := ?_)
    refine rgT 4 (h := ?_)
    refine rgT 5 (h := ?_)
    (refine rgS 6 (h := fun K hK => ?_); go_simp)
    refine (HT.out _ (Keeps.refl _ _).drew.drew).mono ?_
    rintro e w2 ⟨rfl, rfl⟩
    rw [HTO.out]
    (refine hK.out _ _ ⟨f1, f4⟩ (fun hHeld => ?_); clear hK K; try simp only [Act.put, List.setIfInBounds_toArray, List.set_cons_zero, List.set_cons_succ])
    refine rgT 7 (h := ?_)
    refine rgT 8 (h := ?_)
    refine wpAnyH_done (by kernel_rfl) ?_ _
    have HX : Hid (MvP w G H P Q B bb b1 b2 tv R r1 r2 hb qb rb sb sd a0 ts wd c nw (opW w 10 wh tg nn (.slice pa pn pc) (.slice ma mn mc)).drew.drew) := (HQ.out _ (Keeps.refl _ _).drew.drew).mv HK0.out.drew.drew
    clear f1 f3 f4 f5
    go_wp2
    go_ret
    exact ⟨rfl, HX.out⟩
  · by_cases hxn : nn ≥ (nT : Int)
    · have hto : thO B nn = none := by unfold thO; rw [if_neg (by omega)]
      have HTO : Hid (thO B nn = none) := hto
      have d1 : (nn < 0) = False := by simp; omega
      have d2 : decide (nn < 0) = false := by simp; omega
      clear hto hnB hnR hnT hx0
      go_enter Tryz.func35, Tryz.ntmps35
      go_wp2_with fail
      (refine wp_region_held_drew (S := (fun W => W.cell? ⟨w.heap.size, 3, none⟩ = some (.int .i64 nn) ∧ W.cell? ⟨sd, 3, none⟩ = some (.pointer (some ⟨R.bk, 0, none⟩)) ∧ W.cell? ⟨R.bk, 1, none⟩ = some (.slice (some ⟨R.tb, 0, none⟩) nT R.tc))) (by kernel_rfl) ⟨f4, f3, f5⟩ (fun hHeld => ?_); simp only [List.size_toArray, List.length_cons, List.length_nil, Nat.reduceAdd, Array.replicate_succ, Array.replicate_zero, List.push_toArray, List.append_toArray, List.nil_append, List.cons_append])
      refine rgT 0 (h := ?_)
      refine rgT 1 (h := ?_)
      refine rgT 2 (h := ?_)
      refine rgT 3 (h := ?_)
      refine rgT 4 (h := ?_)
      refine rgT 5 (h := ?_)
      refine rgT 6 (h := ?_)
      refine rgT 7 (h := ?_)
      refine rgT 8 (h := ?_)
      refine rgT 9 (h := ?_)
      refine rgT 10 (h := ?_)
      refine rgT 11 (h := ?_)
      refine rgT 12 (h := ?_)
      refine rgT 13 (h := ?_)
      refine rgT 14 (h := ?_)
      refine rgT 15 (h := ?_)
      refine rgT 16 (h := ?_)
      refine wpAnyH_done (by kernel_rfl) ?_ _
      go_wp2_with fail
      (refine wp_region_held_drew (S := (fun W => W.cell? ⟨sd, 1, none⟩ = some (.pointer (some ⟨bb, 0, none⟩)) ∧ W.cell? ⟨w.heap.size, 3, none⟩ = some (.int .i64 nn))) (by kernel_rfl) ⟨f1, f4⟩ (fun hHeld => ?_); simp only [List.size_toArray, List.length_cons, List.length_nil, Nat.reduceAdd, Array.replicate_succ, Array.replicate_zero, List.push_toArray, List.append_toArray, List.nil_append, List.cons_append])
      refine rgT 0 (h := ?_)
      refine rgT 1 (h := ?_)
      refine rgT 2 (h := ?_)
      refine rgT 3 (h := ?_)
      refine rgT 4 (h := ?_)
      refine rgT 5 (h := ?_)
      (refine rgS 6 (h := fun K hK => ?_); go_simp)
      refine (HT.out _ (Keeps.refl _ _).drew.drew).mono ?_
      rintro e w2 ⟨rfl, rfl⟩
      rw [HTO.out]
      (refine hK.out _ _ ⟨f1, f4⟩ (fun hHeld => ?_); clear hK K; try simp only [Act.put, List.setIfInBounds_toArray, List.set_cons_zero, List.set_cons_succ])
      refine rgT 7 (h := ?_)
      refine rgT 8 (h := ?_)
      refine wpAnyH_done (by kernel_rfl) ?_ _
      have HX : Hid (MvP w G H P Q B bb b1 b2 tv R r1 r2 hb qb rb sb sd a0 ts wd c nw (opW w 10 wh tg nn (.slice pa pn pc) (.slice ma mn mc)).drew.drew) := (HQ.out _ (Keeps.refl _ _).drew.drew).mv HK0.out.drew.drew
      clear f1 f3 f4 f5
      go_wp2
      go_ret
      exact ⟨rfl, HX.out⟩
    · obtain ⟨i, rfl⟩ : ∃ i : Nat, nn = (i : Int) := ⟨nn.toNat, by omega⟩
      have hiB : i < B.n := by omega
      have hiR : i < R.n := by omega
      have hto : thO B (i : Int) = some ⟨B.T i, 0, none⟩ := by unfold thO; rw [if_pos (by omega), Int.toNat_natCast]
      have HTO : Hid (thO B (i : Int) = some ⟨B.T i, 0, none⟩) := hto
      have i1 : ¬ (i : Int) < 0 := hx0
      have i2 : ¬ (i : Int) ≥ (nT : Int) := hxn
      clear hto hnB hnR hnT
      go_enter Tryz.func35, Tryz.ntmps35
      go_wp2_with fail
      (refine wp_region_held_drew (S := (fun W => W.cell? ⟨w.heap.size, 3, none⟩ = some (.int .i64 (i : Int)) ∧ W.cell? ⟨sd, 3, none⟩ = some (.pointer (some ⟨R.bk, 0, none⟩)) ∧ W.cell? ⟨R.bk, 1, none⟩ = some (.slice (some ⟨R.tb, 0, none⟩) nT R.tc))) (by kernel_rfl) ⟨f4, f3, f5⟩ (fun hHeld => ?_); simp only [List.size_toArray, List.length_cons, List.length_nil, Nat.reduceAdd, Array.replicate_succ, Array.replicate_zero, List.push_toArray, List.append_toArray, List.nil_append, List.cons_append])
      refine rgT 0 (h := ?_)
      refine rgT 1 (h := ?_)
      refine rgT 2 (h := ?_)
      refine rgT 3 (h := ?_)
      refine rgT 4 (h := ?_)
      refine rgT 5 (h := ?_)
      refine rgT 6 (h := ?_)
      refine rgT 7 (h := ?_)
      refine rgT 8 (h := ?_)
      refine rgT 9 (h := ?_)
      refine rgT 10 (h := ?_)
      refine rgT 11 (h := ?_)
      refine rgT 12 (h := ?_)
      refine rgT 13 (h := ?_)
      refine rgT 14 (h := ?_)
      refine rgT 15 (h := ?_)
      refine rgT 16 (h := ?_)
      refine wpAnyH_done (by kernel_rfl) ?_ _
      go_wp2_with fail
      (refine wp_region_held_drew (S := (fun W => W.cell? ⟨sd, 1, none⟩ = some (.pointer (some ⟨bb, 0, none⟩)) ∧ W.cell? ⟨w.heap.size, 3, none⟩ = some (.int .i64 (i : Int)))) (by kernel_rfl) ⟨f1, f4⟩ (fun hHeld => ?_); simp only [List.size_toArray, List.length_cons, List.length_nil, Nat.reduceAdd, Array.replicate_succ, Array.replicate_zero, List.push_toArray, List.append_toArray, List.nil_append, List.cons_append])
      refine rgT 0 (h := ?_)
      refine rgT 1 (h := ?_)
      refine rgT 2 (h := ?_)
      refine rgT 3 (h := ?_)
      refine rgT 4 (h := ?_)
      refine rgT 5 (h := ?_)
      (refine rgS 6 (h := fun K hK => ?_); go_simp)
      refine (HT.out _ (Keeps.refl _ _).drew.drew).mono ?_
      rintro e w2 ⟨rfl, rfl⟩
      rw [HTO.out]
      (refine hK.out _ _ ⟨f1, f4⟩ (fun hHeld => ?_); clear hK K; try simp only [Act.put, List.setIfInBounds_toArray, List.set_cons_zero, List.set_cons_succ])
      refine rgT 7 (h := ?_)
      refine wpAnyH_done (by kernel_rfl) ?_ _
      go_wp2_with fail
      (refine wp_region_held_drew (S := (fun W => W.cell? ⟨sd, 3, none⟩ = some (.pointer (some ⟨R.bk, 0, none⟩)) ∧ W.cell? ⟨w.heap.size, 3, none⟩ = some (.int .i64 (i : Int)))) (by kernel_rfl) ⟨f3, f4⟩ (fun hHeld => ?_); simp only [List.size_toArray, List.length_cons, List.length_nil, Nat.reduceAdd, Array.replicate_succ, Array.replicate_zero, List.push_toArray, List.append_toArray, List.nil_append, List.cons_append])
      refine rgT 0 (h := ?_)
      refine rgT 2 (h := ?_)
      refine rgT 3 (h := ?_)
      refine rgT 4 (h := ?_)
      refine rgT 5 (h := ?_)
      refine rgT 6 (h := ?_)
      refine rgT 7 (h := ?_)
      refine rgT 8 (h := ?_)
      refine rgT 9 (h := ?_)
      (refine rgS 1 (h := fun K hK => ?_); go_simp)
      have hp := HQ.out (opW w 10 wh tg (i : Int) (.slice pa pn pc) (.slice ma mn mc)).drew.drew.drew (Keeps.refl _ _).drew.drew.drew
      refine (Bo.call hp.ok.hB _ a.2 i hiB hp.q.b.o).mono ?_
      rintro e w3 ⟨rfl, o3, k3⟩
      obtain ⟨q3, kk3⟩ := hp.q.thr o3 k3
      have hsB : stB B a.2 i = stI (insL ts) a.2 i := by rw [← hp.ok.i1]; rfl
      have hdB : dnB B (stB B a.2 i) i = decide (((insL ts) i).length ≤ (stI (insL ts) a.2 i).pl i) := by rw [hsB]; unfold dnB; rw [hp.ok.i1]
      rw [hdB]
      obtain ⟨bq, hbq⟩ : ∃ bq, decide (((insL ts) i).length ≤ (stI (insL ts) a.2 i).pl i) = bq := ⟨_, rfl⟩
      rw [hbq]
      have H3 : Hid (Q4 w3 G H P Q B bb b1 b2 tv R r1 r2 hb qb rb sb a0 (a.1, stI (insL ts) a.2 i) a ∧ Keeps (U4 G H P Q) (opW w 10 wh tg (i : Int) (.slice pa pn pc) (.slice ma mn mc)) w3 ∧ decide (((insL ts) i).length ≤ (stI (insL ts) a.2 i).pl i) = bq) := ⟨by rw [← hsB]; exact q3, (Keeps.refl _ _).drew.drew.drew.trans kk3, hbq⟩
      have hs3 := HS.out w3 _ H3.out.2.1 (fun y e => .inl e)
      clear o3 k3 q3 kk3 hdB hsB hbq hp f1 f3 f4 f5
      (refine hK.out _ _ ⟨hs3.1.2.2.2, hs3.2.2.2.1⟩ (fun hHeld => ?_); clear hK K; try simp only [Act.put, List.setIfInBounds_toArray, List.set_cons_zero, List.set_cons_succ])
      clear hs3
      (refine rgS 10 (h := fun K hK => ?_); go_simp)
      have hok := HP0.out.ok
      refine (rstep_any R hok.hR w3 a.2 H3.out.1.r.o i hiR).mono ?_
      rintro e w4 ⟨rfl, o4, k4⟩
      rw [hok.i2, H3.out.2.2]
      rw [hok.i2] at o4
      obtain ⟨q4, kk4⟩ := H3.out.1.thrD hok.hR o4 k4
      have hs4 := HS.out w4 _ (H3.out.2.1.trans kk4) (fun y e => .inl e)
      have H4 : Hid (MvP w G H P Q B bb b1 b2 tv R r1 r2 hb qb rb sb sd a0 ts wd c nw w4) := HP0.out.both (w1 := w3) (P' := P) (Q' := Q) (a' := (a.1, stI (insL ts) a.2 i)) q4 (fun y hy => .inl hy) (fun y hy => .inl hy) ((HK0.out.mono (fun _ e => e.elim)).trans H3.out.2.1) kk4 (HP0.out.iw.up (by omega)) HP0.out.nq
      clear o4 k4 q4 kk4 H3 hok
      (refine hK.out _ _ ⟨hs4.1.2.2.2, hs4.2.2.2.1⟩ (fun hHeld => ?_); clear hK K; try simp only [Act.put, List.setIfInBounds_toArray, List.set_cons_zero, List.set_cons_succ])
      clear hs4
      refine rgT 11 (h := ?_)
      refine rgT 12 (h := ?_)
      refine wpAnyH_done (by kernel_rfl) ?_ _
      go_wp2
      go_ret
      exact ⟨rfl, H4.out⟩
end Go.Proofs.YtdpebhdjcgiboaaGreat

namespace Go.Proofs.YtdpebhdjcgiboaaGreat
set_option linter.unusedSimpArgs false
open Go.ChangeShapes Go.WideShapes Go.ChangeAt Go.RowKit Go.MuLone Go.RwLone
set_option linter.unusedVariables false
set_option maxRecDepth 100000
set_option maxHeartbeats 6400000
theorem wtl_app (l m : List Pq) : wtl (l ++ m) = wtl l + wtl m := by simp [wtl]
theorem wtl_plS (tg : Int) (ms : List Nat) (t : Nat) : wtl (plS tg ms t) = 2 * t := by
  induction t with
  | zero => rfl
  | succ t ih =>
    rw [plS_succ, wtl_app, ih]
    have h2 : ∀ (x : Nat) (y : Int), wtl [(x, y, false)] = 2 := fun _ _ => rfl
    rw [h2]
    omega
theorem Iw.sub {N c n : Nat} {h : Hp} (v : Iw N c h) (hn : h.q.length = n) (x tg : Int) (ms : List Nat) (hm : ∀ m ∈ ms, m < N) : Iw N (c + 128) (subP h x tg ms).2 ∧ (subP h x tg ms).2.q.length = n := by
  unfold subP
  split
  · rename_i hx
    split
    · exact ⟨v.up (by omega), hn⟩
    · rename_i h64
      have hi : x.toNat < h.q.length := by omega
      rw [List.getElem?_eq_getElem hi] at *
      simp only [Option.getD_some] at *
      have s1 := sum_set wtl h.q x.toNat hi (h.q[x.toNat] ++ plS tg ms ms.length)
      have s2 := sum_set List.length h.q x.toNat hi (h.q[x.toNat] ++ plS tg ms ms.length)
      rw [wtl_app, wtl_plS] at s1
      rw [List.length_append, plS_len] at s2
      have b := v.b
      have c' := v.c
      unfold wtq at b
      unfold szq at c'
      have va := v.a x.toNat _ (List.getElem?_eq_getElem hi)
      refine ⟨⟨fun j l hj => ?_, ?_, ?_, v.e⟩, by rw [List.length_set]; exact hn⟩
      · by_cases e : j = x.toNat
        · subst e
          dsimp only at hj
          rw [List.getElem?_set_self hi] at hj
          injection hj with hj
          subst hj
          refine ⟨by rw [List.length_append, plS_len]; omega, fun y hy => ?_⟩
          rcases List.mem_append.1 hy with hy | hy
          · exact va.2 y hy
          · unfold plS at hy
            obtain ⟨k, hk, rfl⟩ := List.mem_map.1 hy
            have hk' := List.mem_range.1 hk
            dsimp only
            rw [List.getD_eq_getElem?_getD, List.getElem?_eq_getElem hk']
            exact hm _ (List.getElem_mem hk')
        · dsimp only at hj
          rw [List.getElem?_set_ne (fun e' => e e'.symm)] at hj
          exact v.a j l hj
      · show h.ev.length + ((h.q.set x.toNat _).map wtl).sum ≤ _
        omega
      · show h.en.length + ((h.q.set x.toNat _).map List.length).sum ≤ _
        omega
  · exact ⟨v.up (by omega), hn⟩
/-- Rows of pointers to threads, some of them nil. -/
def ptC (x : Option Addr) : List Value := [.pointer x]
abbrev OwN (w : World) (B : Nat) (v : Value) (xs : List (Option Addr)) : Prop := OwG ptC 31 1 w B v xs
def ptL (T : Nat → Nat) (ms : List Nat) : List (Option Addr) := ms.map (fun m => some ⟨T m, 0, none⟩)
theorem ptL_flat (T : Nat → Nat) : ∀ ms : List Nat, (ptL T ms).flatMap ptC = (ms.map T).flatMap thC
  | [] => rfl
  | a :: r => by
    have ih := ptL_flat T r
    show ptC _ ++ (ptL T r).flatMap ptC = thC (T a) ++ (r.map T).flatMap thC
    rw [ih]
    rfl
theorem own_pt {w : World} {B : Nat} {v : Value} {T : Nat → Nat} {ms : List Nat} (h : OwT w B v (ms.map T)) : OwN w B v (ptL T ms) := by
  have h' : w.ownsRow B 31 1 v (ms.map T).length ((ms.map T).flatMap thC) := h
  show w.ownsRow B 31 1 v (ptL T ms).length ((ptL T ms).flatMap ptC)
  rw [ptL_flat, show (ptL T ms).length = (ms.map T).length from by simp [ptL]]
  exact h'
theorem flat_pt (l : List (Option Addr)) : l.flatMap ptC = l.map Value.pointer := by
  induction l with
  | nil => rfl
  | cons a r ih => rw [List.flatMap_cons, ih]; rfl
theorem owN_set {w : World} {B g n c : Nat} {xs : List (Option Addr)} (h : OwN w B (.slice (some ⟨g, 0, none⟩) n c) xs) (i : Nat) (hi : i < xs.length) (x : Option Addr) : OwN (w.setCell ⟨g, i, none⟩ (.pointer x)) B (.slice (some ⟨g, 0, none⟩) n c) (xs.set i x) ∧ w.cell? ⟨g, i, none⟩ = some (.pointer xs[i]) ∧ w.frozen? ⟨g, i, none⟩ = false := by
  have hnx := (owG_cap h).1
  subst hnx
  refine ⟨?_, ?_, World.ownsRow.frozenAt h i⟩
  · have h2 := (World.ownsRow.stored h i (.pointer x)).1
    have e : (xs.set i x).flatMap ptC = (xs.flatMap ptC).set i (.pointer x) := by
      rw [flat_pt, flat_pt, List.map_set]
    unfold OwN OwG
    rw [e, List.length_set]
    exact h2
  · exact (World.ownsRow.cellAt h i (by omega)).trans (by rw [flat_pt, List.getElem?_map, List.getElem?_eq_getElem hi]; rfl)
end Go.Proofs.YtdpebhdjcgiboaaGreat

namespace Go.Proofs.YtdpebhdjcgiboaaGreat
set_option linter.unusedSimpArgs false
open Go.ChangeShapes Go.WideShapes Go.ChangeAt Go.RowKit Go.MuLone Go.RwLone
set_option linter.unusedVariables false
set_option maxRecDepth 100000
set_option maxHeartbeats 6400000
theorem infoThr : ((Tryz.prog.info? 154).map (fun _ => ())) = some () := by kernel_rfl
theorem someThr : ∃ j, Tryz.prog.info? 154 = some j := by
  cases h : Tryz.prog.info? 154 with
  | none => have := infoThr; rw [h] at this; cases this
  | some j => exact ⟨j, rfl⟩
theorem eqlT (x : Addr) (w : World) : (binOp .eql 31 (.pointer (some x)) (.pointer (some x))).run Tryz.prog w = .ok (.bool true) w := by
  obtain ⟨j, hj⟩ := someThr
  exact run_eql_ptr_same w x Tryz.underlying31 hj
theorem neqT (x : Addr) (w : World) : (binOp .neq 31 (.pointer (some x)) (.pointer (some x))).run Tryz.prog w = .ok (.bool false) w := by
  obtain ⟨j, hj⟩ := someThr
  exact Lib.run_neq_ptr_same w x Tryz.underlying31 hj
theorem PSt.both2 {w w1 w2 : World} {G H P Q P' Q' : Nat → Prop} {B : Bd} {bb b1 b2 : Nat} {tv : Value} {R : Rd} {r1 r2 hb qb rb sb sd : Nat} {a0 : Hp} {a a' : Hp × Ls} {ts : List (List I8)} {wd c nw : Nat} (p : PSt w G H P Q B bb b1 b2 tv R r1 r2 hb qb rb sb sd a0 a ts wd c nw) (q2 : Q4 w2 G H P' Q' B bb b1 b2 tv R r1 r2 hb qb rb sb a0 a' a') (hP : ∀ y, P' y → P y ∨ w.heap.size ≤ y) (hQ : ∀ y, Q' y → Q y ∨ w1.heap.size ≤ y) (k1 : Keeps (U4 G H P Q) w w1) (k2 : Keeps (U4 G H P' Q) w1 w2) (iw : Iw ts.length (c + 128) a'.1) (nq : a'.1.q.length = nw) : PSt w2 G H P' Q' B bb b1 b2 tv R r1 r2 hb qb rb sb sd a0 a' ts wd (c + 128) nw ∧ (∀ y, Q' y → Q y ∨ w.heap.size ≤ y) ∧ Keeps (U4 G H P Q) w w2 := by
  have ls := (Array.getElem?_eq_some_iff.1 p.bs).1
  have s1 := k1.size
  have hk : Keeps (fun x => U4 G H P Q x ∨ w.heap.size ≤ x) w w2 := (k1.mono (fun _ e => .inl e)).trans (k2.mono (fun y e => by
    rcases e with e | e | e | e
    · exact .inl (.inl e)
    · exact .inl (.inr (.inl e))
    · exact (hP y e).imp (fun e => .inr (.inr (.inl e))) id
    · exact .inl (.inr (.inr (.inr e)))))
  refine ⟨⟨p.ok, q2, (hk.thin.block sd ls p.ns).trans p.bs, fun e => ?_, iw, nq⟩, fun y hy => (hQ y hy).imp id (fun e => by omega), hk.thin⟩
  rcases e with e | e | e | e
  · exact p.ns (.inl e)
  · exact p.ns (.inr (.inl e))
  · rcases hP sd e with h | h
    · exact p.ns (.inr (.inr (.inl h)))
    · omega
  · rcases hQ sd e with h | h
    · exact p.ns (.inr (.inr (.inr h)))
    · omega
/-- A Submit, on both sides. -/
theorem mv_submit (w : World) (G H P Q : Nat → Prop) (B : Bd) (bb b1 b2 : Nat) (tv : Value) (R : Rd) (r1 r2 hb qb rb sb sd : Nat) (a0 : Hp) (a : Hp × Ls) (ts : List (List I8)) (wd c nw : Nat) (p : PSt w G H P Q B bb b1 b2 tv R r1 r2 hb qb rb sb sd a0 a ts wd c nw) (C : Nat) (hC : C ≤ w.heap.size) (wh tg nn : Int) (pa : Option Addr) (pn pc : Nat) (ma : Option Addr) (mc : Nat) (ks : List Int) (hk : InG inZ w C (.slice ma ks.length mc) ks) (hkl : ks.length ≤ 1048576) :
    Calls Tryz.prog 35 #[.pointer (some ⟨sd, 0, none⟩), .agg (opC 1 wh tg nn (.slice pa pn pc) (.slice ma ks.length mc))] w fun e w' => e = .returned (.bool true) ∧ MvP w G H P Q B bb b1 b2 tv R r1 r2 hb qb rb sb sd a0 ts wd c nw w' := by
  have k0 : Keeps (fun _ => False) w (opW w 1 wh tg nn (.slice pa pn pc) (.slice ma ks.length mc)) := (Keeps.refl _ _).alloc _
  have sz : (opW w 1 wh tg nn (.slice pa pn pc) (.slice ma ks.length mc)).heap.size = w.heap.size + 1 := szAl _ _
  have HP0 : Hid (PSt w G H P Q B bb b1 b2 tv R r1 r2 hb qb rb sb sd a0 a ts wd c nw) := p
  have HS : Hid (∀ W D, Keeps D (opW w 1 wh tg nn (.slice pa pn pc) (.slice ma ks.length mc)) W → (∀ y, D y → U4 G H P Q y ∨ w.heap.size < y) → _) := fun W D k hD => p.cells 1 wh tg nn (.slice pa pn pc) (.slice ma ks.length mc) W D k hD
  have hp := p.still k0
  have HTH : Hid (∀ _ : Unit, _) := fun _ => threads_any (opW w 1 wh tg nn (.slice pa pn pc) (.slice ma ks.length mc)) sd hb bb rb R hp.bs a.2 hp.q.r.o B b1 tv hp.q.b.be hp.q.b.ot (by rw [hp.ok.n1, hp.ok.n2]) C ma mc ks (hk.later (k0.below hC (fun _ _ e => e))) (by omega) hkl
  have HOK : Hid (PairOk B R ts wd) := p.ok
  obtain ⟨ms, hms⟩ : ∃ ms, mfil R.n ks = ms := ⟨_, rfl⟩
  have HMS : Hid ((∀ m ∈ ms, m < ts.length) ∧ ms.length ≤ 1048576) := ⟨by rw [← hms, p.ok.n2]; exact mfil_lt, by rw [← hms]; have := mfil_len R.n ks; omega⟩
  rw [hms] at HTH
  have cp5 := (HS.out _ (fun _ => False) (Keeps.refl _ _) (fun _ e => e.elim)).2.2.2.2.2
  clear p hp hk hms k0
  go_enter Tryz.func35, Tryz.ntmps35
  go_wp2_with fail
  refine (HTH.out ()).mono ?_
  rintro e w1 ⟨v1, v2, rfl, o1, o2, k1⟩
  rw [sz] at o1 o2
  obtain ⟨na, nc, rfl⟩ := o1.form
  obtain ⟨ta, tc, hta⟩ := o2.form
  rw [List.length_map] at hta
  subst hta
  have s1 : w.heap.size + 1 ≤ w1.heap.size := by rw [← sz]; exact k1.size
  have H1 : Hid (Keeps (fun _ => False) (opW w 1 wh tg nn (.slice pa pn pc) (.slice ma ks.length mc)) w1 ∧ OwI w1 (w.heap.size + 1) (.slice na ms.length nc) ms ∧ OwT w1 (w.heap.size + 1) (.slice ta ms.length tc) (ms.map B.T) ∧ PSt w1 G H P Q B bb b1 b2 tv R r1 r2 hb qb rb sb sd a0 a ts wd c nw) := ⟨k1, o1, o2, (HP0.out.still ((Keeps.refl _ _).alloc _)).still k1⟩
  have hml := HMS.out.2
  have hs1 := HS.out w1.drew _ H1.out.1.drew (fun _ e => e.elim)
  clear o1 o2 k1 HTH cp5
  go_wp2_with fail
  (refine wp_region_held_drew (S := (fun W => W.cell? ⟨sd, 0, none⟩ = some (.pointer (some ⟨hb, 0, none⟩)) ∧ W.cell? ⟨w.heap.size, 1, none⟩ = some (.int .i64 wh) ∧ W.cell? ⟨w.heap.size, 2, none⟩ = some (.int .i64 tg))) (by kernel_rfl) ⟨hs1.1.1, hs1.2.1, hs1.2.2.1⟩ (fun hHeld => ?_); simp only [List.size_toArray, List.length_cons, List.length_nil, Nat.reduceAdd, Array.replicate_succ, Array.replicate_zero, List.push_toArray, List.append_toArray, List.nil_append, List.cons_append])
  clear hs1
  refine rgT 0 (h := ?_)
  refine rgT 1 (h := ?_)
  refine rgT 2 (h := ?_)
  refine rgT 3 (h := ?_)
  refine rgT 4 (h := ?_)
  refine rgT 5 (h := ?_)
  refine rgT 6 (h := ?_)
  refine rgT 7 (h := ?_)
  refine rgT 8 (h := ?_)
  (refine rgS 9 (h := fun K hK => ?_); go_simp)
  obtain ⟨qv, ev, en, m⟩ := H1.out.2.2.2.q.m
  refine (hsubmit w1.drew P B.T hb qb qv ev en a.1 (m.still (Keeps.refl _ _).drew) wh tg ta tc ms (fun k hk => by
    obtain ⟨g, cap, e, hg, hgl⟩ := owG_some H1.out.2.2.1 (by intro e; have := congrArg List.length e; rw [List.length_map, List.length_nil] at this; omega)
    rw [List.length_map] at e
    injection e with e _ _
    refine ⟨g, 0, e, fun hP => by have := HP0.out.q.lt g (.inr (.inr (.inl hP))); omega, ?_⟩
    have hc := InG.cell (cs := thC) (n := 1) (fun _ => rfl) H1.out.2.2.1.in k (by rw [List.length_map]; exact hk) (by decide)
    obtain ⟨b, off, e2, _, hc⟩ := hc
    rw [e] at e2
    injection e2 with e2
    injection e2 with e3 e4
    subst e3 e4
    have := hc 0 (by decide)
    rw [Nat.mul_one, Nat.add_zero, List.getElem_map] at this
    exact this) (by omega)).mono ?_
  rintro e w2 ⟨rfl, P', qv', m2, hP2, k2⟩
  obtain ⟨er, her⟩ : ∃ er, (subP a.1 wh tg ms).1 = er := ⟨_, rfl⟩
  have HER : Hid ((subP a.1 wh tg ms).1 = er) := her
  rw [her]
  have kU : Keeps (U4 G H P Q) w1 w2 := ((Keeps.refl _ _).drew.trans (k2.mono (fun y e => .inr (.inr (.inl e)))))
  have q2 := (H1.out.2.2.2.q.still (Keeps.refl _ _).drew).progH ⟨qv', ev, en, m2⟩ hP2 k2
  have H2 : Hid (Q4 w2 G H P' Q B bb b1 b2 tv R r1 r2 hb qb rb sb a0 ((subP a.1 wh tg ms).2, a.2) a ∧ (∀ y, P' y → P y ∨ w1.heap.size ≤ y) ∧ Keeps (U4 G H P Q) (opW w 1 wh tg nn (.slice pa pn pc) (.slice ma ks.length mc)) w2 ∧ OwI w2 (w.heap.size + 1) (.slice na ms.length nc) ms ∧ OwT w2 (w.heap.size + 1) (.slice ta ms.length tc) (ms.map B.T)) := ⟨q2, hP2, (H1.out.1.mono (fun _ e => e.elim)).trans kU, owK H1.out.2.1 kU (fun g hg e => by have := HP0.out.q.lt g e; have := (World.ownsRow.lt H1.out.2.1 g hg).1; omega), owK H1.out.2.2.1 kU (fun g hg e => by have := HP0.out.q.lt g e; have := (World.ownsRow.lt H1.out.2.2.1 g hg).1; omega)⟩
  have H2Z : Hid (w1.heap.size ≤ w2.heap.size) := kU.size
  have hs2 := HS.out w2 _ H2.out.2.2.1 (fun y e => .inl e)
  clear her m2 hP2 k2 kU q2 m
  (refine hK.out _ _ ⟨hs2.1.1, hs2.2.1, hs2.2.2.1⟩ (fun hHeld => ?_); clear hK K; try simp only [Act.put, List.setIfInBounds_toArray, List.set_cons_zero, List.set_cons_succ])
  refine rgT 10 (h := ?_)
  refine wpAnyH_done (by kernel_rfl) ?_ _
  go_wp2_with fail
  (refine wp_region_held_drew (S := (fun W => W.cell? ⟨sd, 2, none⟩ = some (.pointer (some ⟨rb, 0, none⟩)) ∧ W.cell? ⟨w.heap.size, 1, none⟩ = some (.int .i64 wh) ∧ W.cell? ⟨w.heap.size, 2, none⟩ = some (.int .i64 tg))) (by kernel_rfl) ⟨hs2.1.2.2.1, hs2.2.1, hs2.2.2.1⟩ (fun hHeld => ?_); simp only [List.size_toArray, List.length_cons, List.length_nil, Nat.reduceAdd, Array.replicate_succ, Array.replicate_zero, List.push_toArray, List.append_toArray, List.nil_append, List.cons_append])
  clear hs2
  refine rgT 0 (h := ?_)
  refine rgT 1 (h := ?_)
  refine rgT 2 (h := ?_)
  refine rgT 3 (h := ?_)
  refine rgT 4 (h := ?_)
  refine rgT 5 (h := ?_)
  refine rgT 6 (h := ?_)
  refine rgT 7 (h := ?_)
  refine rgT 8 (h := ?_)
  (refine rgS 9 (h := fun K hK => ?_); go_simp)
  obtain ⟨uv, uev, uen, n⟩ := H2.out.1.n
  refine (rsubmit w2.drew Q R.bk rb sb uv uev uen a.1 (n.still (Keeps.refl _ _).drew) wh tg na nc ms (fun k hk => by
    obtain ⟨g, cap, e, hg, hgl⟩ := owG_some H2.out.2.2.2.1 (by intro e; rw [e] at hk; simp at hk)
    injection e with e _ _
    refine ⟨g, 0, e, fun hQ => by have := HP0.out.q.lt g (.inr (.inr (.inr hQ))); omega, ?_⟩
    have hc := InG.cell (cs := inR) (n := 1) (fun _ => rfl) H2.out.2.2.2.1.in k hk (by decide)
    obtain ⟨b, off, e2, _, hc⟩ := hc
    rw [e] at e2
    injection e2 with e2
    injection e2 with e3 e4
    subst e3 e4
    have := hc 0 (by decide)
    rw [Nat.mul_one, Nat.add_zero] at this
    exact this) (by omega) (fun i l hl => (HP0.out.iw.a i l hl).1)).mono ?_
  rintro e w3 ⟨rfl, Q', uv', n2, hQ3, k3⟩
  rw [HER.out]
  have q3 := (H2.out.1.still (Keeps.refl _ _).drew).docH ⟨uv', uev, uen, n2⟩ hQ3 k3
  have kq : Keeps (U4 G H P' Q) w2.drew w3 := k3.mono (fun y e => .inr (.inr (.inr e)))
  have kq2 : Keeps (U4 G H P Q) w2 w3 := (Keeps.refl _ _).drew.trans (k3.mono (fun y e => .inr (.inr (.inr e))))
  have hz : (opW w 1 wh tg nn (.slice pa pn pc) (.slice ma ks.length mc)).heap.size ≤ w2.heap.size := H2.out.2.2.1.size
  have hz1 : w1.heap.size ≤ w2.heap.size := H2Z.out
  have H3 : Hid ((PSt w3 G H P' Q' B bb b1 b2 tv R r1 r2 hb qb rb sb sd a0 ((subP a.1 wh tg ms).2, a.2) ts wd (c + 128) nw ∧ (∀ y, Q' y → Q y ∨ w.heap.size ≤ y) ∧ Keeps (U4 G H P Q) w w3) ∧ OwI w3 (w.heap.size + 1) (.slice na ms.length nc) ms ∧ OwN w3 (w.heap.size + 1) (.slice ta ms.length tc) (ptL B.T ms) ∧ (∀ y, P' y → P y ∨ w.heap.size ≤ y) ∧ (∀ y, U4 G H P' Q' y → y < w.heap.size ∨ w1.heap.size ≤ y) ∧ (∀ g, (Value.slice ta ms.length tc).ownBlock = some g → g < w1.heap.size) ∧ Keeps (U4 G H P Q) (opW w 1 wh tg nn (.slice pa pn pc) (.slice ma ks.length mc)) w3) := by
    have st := HP0.out.iw.sub HP0.out.nq wh tg ms HMS.out.1
    refine ⟨HP0.out.both2 (w1 := w2.drew) (P' := P') (Q' := Q') (a' := ((subP a.1 wh tg ms).2, a.2)) q3 (fun y hy => (H2.out.2.1 y hy).imp id (fun e => by omega)) hQ3 (((((Keeps.refl _ _).alloc _).trans H2.out.2.2.1)).drew) kq st.1 st.2, owK H2.out.2.2.2.1 kq2 (fun g hg e => by have := HP0.out.q.lt g e; have := (World.ownsRow.lt H2.out.2.2.2.1 g hg).1; omega), own_pt (owK H2.out.2.2.2.2 kq2 (fun g hg e => by have := HP0.out.q.lt g e; have := (World.ownsRow.lt H2.out.2.2.2.2 g hg).1; omega)), fun y hy => (H2.out.2.1 y hy).imp id (fun e => by omega), fun y e => ?_, fun g hg => (World.ownsRow.lt H1.out.2.2.1 g hg).2, H2.out.2.2.1.trans kq2⟩
    rcases e with e | e | e | e
    · exact .inl (HP0.out.q.lt y (.inl e))
    · exact .inl (HP0.out.q.lt y (.inr (.inl e)))
    · exact (H2.out.2.1 y e).imp (fun e => HP0.out.q.lt y (.inr (.inr (.inl e)))) id
    · refine (hQ3 y e).imp (fun e => HP0.out.q.lt y (.inr (.inr (.inr e)))) (fun e => ?_)
      have e' : w2.heap.size ≤ y := e
      omega
  have hs3 := HS.out w3 _ (H2.out.2.2.1.trans kq2) (fun y e => .inl e)
  clear n2 hQ3 k3 q3 kq kq2 n
  (refine hK.out _ _ ⟨hs3.1.2.2.1, hs3.2.1, hs3.2.2.1⟩ (fun hHeld => ?_); clear hK K; try simp only [Act.put, List.setIfInBounds_toArray, List.set_cons_zero, List.set_cons_succ])
  clear hs3
  refine rgT 10 (h := ?_)
  refine wpAnyH_done (by kernel_rfl) ?_ _
  go_wp2_with fail
  have HCL : Hid (∀ W, Keeps (fun y => (Value.slice ta ms.length tc).ownBlock = some y) w3 W → PSt W G H P' Q' B bb b1 b2 tv R r1 r2 hb qb rb sb sd a0 ((subP a.1 wh tg ms).2, a.2) ts wd (c + 128) nw ∧ OwI W (w.heap.size + 1) (.slice na ms.length nc) ms ∧ W.cell? ⟨sd, 1, none⟩ = some (.pointer (some ⟨bb, 0, none⟩))) := fun W k => by
    have hlo : ∀ y, (Value.slice ta ms.length tc).ownBlock = some y → w.heap.size + 1 ≤ y ∧ y < w1.heap.size := fun y e => ⟨(World.ownsRow.lt H3.out.2.2.1 y e).1, H3.out.2.2.2.2.2.1 y e⟩
    have pp := H3.out.1.1.keeps k (fun y e => by
      have h1 := hlo y e
      refine ⟨fun u => ?_, fun es => ?_⟩
      · have := H3.out.2.2.2.2.1 y u
        omega
      · have := (Array.getElem?_eq_some_iff.1 HP0.out.bs).1
        omega)
    refine ⟨pp, owK H3.out.2.1 k (fun g hg e => ?_), (cell?_heap pp.bs 1).trans rfl⟩
    obtain ⟨cx, hcx⟩ := blk H3.out.2.1 hg
    obtain ⟨cy, hcy⟩ := blk H3.out.2.2.1 e
    exact neT hcx hcy (by decide) rfl
  go_loopw [11, 10] (fun c11 c10 wr => ∃ (t : Nat) (xs : List (Option Addr)), c11 = .int .i64 t ∧ c10 = .bool true ∧ t ≤ ms.length ∧ xs.length = ms.length ∧ (∀ j, t ≤ j → xs[j]? = (ptL B.T ms)[j]?) ∧ OwN wr (w.heap.size + 1) (.slice ta ms.length tc) xs ∧ Keeps (fun y => (Value.slice ta ms.length tc).ownBlock = some y) w3 wr) (fun c11 _ _ => ms.length - (intOf c11).toNat)
  case atStart => exact ⟨0, ptL B.T ms, rfl, rfl, by omega, by simp [ptL], fun _ _ => rfl, H3.out.2.2.1, Keeps.refl _ _⟩
  case round =>
    obtain ⟨t, xs, rfl, rfl, ht, hxl, hxv, hon, hkk⟩ := hrel
    have HQ : Hid (OwN wr (w.heap.size + 1) (.slice ta ms.length tc) xs ∧ Keeps (fun y => (Value.slice ta ms.length tc).ownBlock = some y) w3 wr ∧ (∀ j, t ≤ j → xs[j]? = (ptL B.T ms)[j]?) ∧ xs.length = ms.length) := ⟨hon, hkk, hxv, hxl⟩
    by_cases h5 : t < ms.length
    · have t0 : (0 : Int) ≤ (t : Int) := Int.natCast_nonneg _
      have t1 : (t : Int) < (ms.length : Int) := by omega
      obtain ⟨pp, oi, c1⟩ := HCL.out wr hkk
      obtain ⟨g, cap, eg, hg1, hg2⟩ := owG_some hon (by intro e; rw [e] at hxl; simp at hxl; omega)
      injection eg with eg eg2 eg3
      clear eg2 eg3
      subst eg
      obtain ⟨st1, st2, st3⟩ := owN_set hon t (by omega) none
      have hxt : xs[t]'(by omega) = some ⟨B.T ms[t], 0, none⟩ := by
        have h1 := hxv t (Nat.le_refl _)
        rw [List.getElem?_eq_getElem (by omega)] at h1
        unfold ptL at h1
        rw [List.getElem?_map, List.getElem?_eq_getElem h5] at h1
        exact Option.some.inj h1
      rw [hxt] at st2
      obtain ⟨nb, ncap, enb, _, _⟩ := owG_some oi (by intro e; rw [e] at h5; simp at h5)
      injection enb with enb enb2 enb3
      clear enb2 enb3
      subst enb
      have cn : wr.cell? ⟨nb, t, none⟩ = some (.int .i64 (ms[t] : Int)) := by
        have hc := InG.cell (cs := inR) (n := 1) (fun _ => rfl) oi.in t h5 (by decide)
        obtain ⟨b, off, e2, _, hc⟩ := hc
        injection e2 with e2
        injection e2 with e3 e4
        subst e3 e4
        have := hc 0 (by decide)
        rw [Nat.mul_one, Nat.add_zero, Nat.zero_add] at this
        exact this
      have hlt : ms[t] < ts.length := HMS.out.1 _ (List.getElem_mem h5)
      obtain ⟨mt, hmt⟩ : ∃ mt, ms[t] = mt := ⟨_, rfl⟩
      rw [hmt] at st2 cn hlt
      have hto : thO B (mt : Int) = some ⟨B.T mt, 0, none⟩ := by unfold thO; rw [HOK.out.n1, if_pos (by omega), Int.toNat_natCast]
      have HTB : Hid (∀ _ : Unit, _) := fun _ => bthread wr.drew B bb b1 tv (pp.still (Keeps.refl _ _).drew).q.b.be (pp.still (Keeps.refl _ _).drew).q.b.ot (mt : Int)
      rw [hto] at HTB
      have HN : Hid (OwN (wr.setCell ⟨g, t, none⟩ (.pointer none)).drew (w.heap.size + 1) (.slice (some ⟨g, 0, none⟩) ms.length tc) (xs.set t none) ∧ Keeps (fun y => (Value.slice (some ⟨g, 0, none⟩) ms.length tc).ownBlock = some y) w3 (wr.setCell ⟨g, t, none⟩ (.pointer none)).drew ∧ (∀ j, t + 1 ≤ j → (xs.set t none)[j]? = (ptL B.T ms)[j]?) ∧ (xs.set t none).length = ms.length) := ⟨owK st1 (Keeps.refl (fun _ => False) _).drew (fun _ _ e => e), (Keeps.setCell (B := fun y => (Value.slice (some ⟨g, 0, none⟩) ms.length tc).ownBlock = some y) hkk (p := ⟨g, t, none⟩) rfl _).drew, fun j hj => by rw [List.getElem?_set_ne (by omega)]; exact hxv j (by omega), by rw [List.length_set]; exact hxl⟩
      clear hon hkk hxv hxl st1 hxt oi pp hto hmt HQ
      go_wp2_with fail
      (refine wp_region_held_drew (S := (fun W => W.cell? ⟨g, t, none⟩ = some (.pointer (some ⟨B.T mt, 0, none⟩)) ∧ W.cell? ⟨sd, 1, none⟩ = some (.pointer (some ⟨bb, 0, none⟩)) ∧ W.cell? ⟨nb, t, none⟩ = some (.int .i64 (mt : Int)))) (by kernel_rfl) ⟨st2, c1, cn⟩ (fun hHeld => ?_); simp only [List.size_toArray, List.length_cons, List.length_nil, Nat.reduceAdd, Array.replicate_succ, Array.replicate_zero, List.push_toArray, List.append_toArray, List.nil_append, List.cons_append])
      refine rgT 0 (h := ?_)
      refine rgT 1 (h := ?_)
      refine rgT 2 (h := ?_)
      refine rgT 3 (h := ?_)
      refine rgT 4 (h := ?_)
      refine rgT 5 (h := ?_)
      refine rgT 6 (h := ?_)
      refine rgT 7 (h := ?_)
      refine rgT 8 (h := ?_)
      refine rgT 9 (h := ?_)
      refine rgT 10 (h := ?_)
      refine rgT 11 (h := ?_)
      refine rgT 12 (h := ?_)
      refine rgT 13 (h := ?_)
      (refine rgS 14 (h := fun K hK => ?_); go_simp)
      refine (HTB.out ()).mono ?_
      rintro e w5 ⟨rfl, rfl⟩
      have qe := eqlT ⟨B.T mt, 0, none⟩
      (refine hK.out _ _ ⟨st2, c1, cn⟩ (fun hHeld => ?_); clear hK K; try simp only [Act.put, List.setIfInBounds_toArray, List.set_cons_zero, List.set_cons_succ])
      refine rgT 15 (h := ?_)
      refine rgT 16 (h := ?_)
      refine rgT 17 (h := ?_)
      refine wpAnyH_done (by kernel_rfl) ?_ _
      clear c1 cn
      go_wp2
      go_roundw
      case rel => exact ⟨t + 1, xs.set t none, by go_num, rfl, by omega, HN.out.2.2.2, HN.out.2.2.1, HN.out.1, HN.out.2.1⟩
      case measure => simp [intOf]; omega
    · have hte : t = ms.length := by omega
      subst hte
      have HX : Hid (MvP w G H P Q B bb b1 b2 tv R r1 r2 hb qb rb sb sd a0 ts wd c nw wr) := ⟨P', Q', _, (HCL.out wr hkk).1, H3.out.2.2.2.1, H3.out.1.2.1, by
        have kk : Keeps (fun y => U4 G H P Q y ∨ w.heap.size ≤ y) w wr := (H3.out.1.2.2.mono (fun _ e => .inl e)).trans (hkk.mono (fun y e => .inr (by have := (World.ownsRow.lt H3.out.2.2.1 y e).1; omega)))
        exact kk.thin⟩
      clear hon hkk hxv hxl HQ
      go_wp2
      go_ret
      exact ⟨rfl, HX.out⟩
end Go.Proofs.YtdpebhdjcgiboaaGreat
