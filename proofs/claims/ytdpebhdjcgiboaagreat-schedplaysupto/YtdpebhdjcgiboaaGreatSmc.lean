import Derived.Test.YtdpebhdjcgiboaaGreatSma
namespace Go.Proofs.YtdpebhdjcgiboaaGreat
set_option linter.unusedSimpArgs false
open Go.ChangeShapes Go.WideShapes Go.ChangeAt Go.RowKit Go.MuLone Go.RwLone
set_option linter.unusedVariables false
set_option maxRecDepth 100000
set_option maxHeartbeats 6400000
/-- A thread's registers, on both sides. -/
theorem lk_regs (w : World) (G H P Q : Nat → Prop) (B : Bd) (bb b1 b2 : Nat) (tv : Value) (R : Rd) (r1 r2 hb qb rb sb sd : Nat) (a0 : Hp) (a : Hp × Ls) (ts : List (List I8)) (wd c nw : Nat) (p : PSt w G H P Q B bb b1 b2 tv R r1 r2 hb qb rb sb sd a0 a ts wd c nw) (wh tg nn : Int) (pa : Option Addr) (pn pc : Nat) (ma : Option Addr) (mn mc : Nat) :
    Calls Tryz.prog 36 #[.pointer (some ⟨sd, 0, none⟩), .agg (opC 11 wh tg nn (.slice pa pn pc) (.slice ma mn mc))] w fun e w' => e = .returned (.bool true) ∧ MvP w G H P Q B bb b1 b2 tv R r1 r2 hb qb rb sb sd a0 ts wd c nw w' := by
  have k0 : Keeps (fun _ => False) w (opW w 11 wh tg nn (.slice pa pn pc) (.slice ma mn mc)) := (Keeps.refl _ _).alloc _
  have sz : (opW w 11 wh tg nn (.slice pa pn pc) (.slice ma mn mc)).heap.size = w.heap.size + 1 := szAl _ _
  have HP0 : Hid (PSt w G H P Q B bb b1 b2 tv R r1 r2 hb qb rb sb sd a0 a ts wd c nw) := p
  have HS : Hid (∀ W D, Keeps D (opW w 11 wh tg nn (.slice pa pn pc) (.slice ma mn mc)) W → (∀ y, D y → U4 G H P Q y ∨ w.heap.size < y) → _) := fun W D k hD => p.cells 11 wh tg nn (.slice pa pn pc) (.slice ma mn mc) W D k hD
  have HQ : Hid (∀ W, Keeps (fun _ => False) (opW w 11 wh tg nn (.slice pa pn pc) (.slice ma mn mc)) W → PSt W G H P Q B bb b1 b2 tv R r1 r2 hb qb rb sb sd a0 a ts wd c nw) := fun W k => p.still (k0.trans k)
  have HK0 : Hid (Keeps (fun _ => False) w (opW w 11 wh tg nn (.slice pa pn pc) (.slice ma mn mc))) := k0
  have hnB : B.n = ts.length := p.ok.n1
  have hnR : R.n = ts.length := p.ok.n2
  have HF : Hid (∀ W, Keeps (fun y => w.heap.size < y) (opW w 11 wh tg nn (.slice pa pn pc) (.slice ma mn mc)) W → W.cell? ⟨sd, 1, none⟩ = some (.pointer (some ⟨bb, 0, none⟩)) ∧ W.cell? ⟨sd, 3, none⟩ = some (.pointer (some ⟨R.bk, 0, none⟩)) ∧ W.cell? ⟨w.heap.size, 3, none⟩ = some (.int .i64 nn) ∧ W.cell? ⟨R.bk, 1, none⟩ = some (.slice (some ⟨R.tb, 0, none⟩) ts.length R.tc) ∧ RP R W a.2) := fun W k => by
    have h := HS.out W (fun y => w.heap.size < y) k (fun _ e => .inr e)
    have kk : Keeps (fun y => False ∨ w.heap.size ≤ y) w W := (k0.mono (fun _ e => e.elim)).trans (k.mono (fun y e => .inr (by omega)))
    have hr := (p.still kk.thin).q.r.o
    refine ⟨h.1.2.1, h.1.2.2.2, h.2.2.2.1, ?_, hr⟩
    have := hr.p1
    rw [hnR] at this
    exact this
  have HT : Hid (∀ W, Keeps (fun _ => False) (opW w 11 wh tg nn (.slice pa pn pc) (.slice ma mn mc)) W → Calls Tryz.prog 39 #[.pointer (some ⟨bb, 0, none⟩), .int .i64 nn] W fun e w' => e = .returned (.pointer (thO B nn)) ∧ w' = W) := fun W k => bthread W B bb b1 tv (HQ.out W k).q.b.be (HQ.out W k).q.b.ot nn
  obtain ⟨f1, f3, f4, f5, -⟩ := HF.out (opW w 11 wh tg nn (.slice pa pn pc) (.slice ma mn mc)).drew ((Keeps.refl _ _).drew)
  obtain ⟨nT, hnT⟩ : ∃ nT, ts.length = nT := ⟨_, rfl⟩
  have HNT : Hid (ts.length = nT) := hnT
  rw [hnT] at f5
  clear p
  by_cases hx0 : nn < 0
  · have hto : thO B nn = none := by unfold thO; rw [if_neg (by omega)]
    have HTO : Hid (thO B nn = none) := hto
    clear hto hnB hnR hnT
    go_enter Tryz.func36, Tryz.ntmps36
    go_wp2_with fail
    (refine wp_region_held_drew (S := (fun W => W.cell? ⟨sd, 1, none⟩ = some (.pointer (some ⟨bb, 0, none⟩)) ∧ W.cell? ⟨w.heap.size, 3, none⟩ = some (.int .i64 nn))) (by kernel_rfl) ⟨f1, f4⟩ (fun hHeld => ?_); simp only [List.size_toArray, List.length_cons, List.length_nil, Nat.reduceAdd, Array.replicate_succ, Array.replicate_zero, List.push_toArray, List.append_toArray, List.nil_append, List.cons_append])
    refine rgT 0 (h := ?_)
    refine rgT 1 (h := ?_)
    refine rgT 2 (h := ?_)
    refine rgT 3 (h := ?_)
    refine rgT 4 (h := ?_)
    refine rgT 5 (h := ?_)
    (refine rgS 6 (h := fun K hK => ?_); go_simp)
    refine (HT.out _ (Keeps.refl _ _).drew).mono ?_
    rintro e w2 ⟨rfl, rfl⟩
    rw [HTO.out]
    (refine hK.out _ _ ⟨f1, f4⟩ (fun hHeld => ?_); clear hK K; try simp only [Act.put, List.setIfInBounds_toArray, List.set_cons_zero, List.set_cons_succ])
    refine rgT 7 (h := ?_)
    refine wpAnyH_done (by kernel_rfl) ?_ _
    go_wp2_with fail
    (refine wp_region_held_drew (S := (fun W => W.cell? ⟨w.heap.size, 3, none⟩ = some (.int .i64 nn))) (by kernel_rfl) f4 (fun hHeld => ?_); simp only [List.size_toArray, List.length_cons, List.length_nil, Nat.reduceAdd, Array.replicate_succ, Array.replicate_zero, List.push_toArray, List.append_toArray, List.nil_append, List.cons_append])
    refine rgT 0 (h := ?_)
    refine rgT 1 (h := ?_)
    refine rgT 2 (h := ?_)
    refine rgT 3 (h := ?_)
    refine rgK 4 (h := ?_)
    refine rgK 5 (h := ?_)
    refine rgK 6 (h := ?_)
    refine rgK 7 (h := ?_)
    refine rgK 8 (h := ?_)
    refine rgK 9 (h := ?_)
    refine rgK 10 (h := ?_)
    refine rgK 11 (h := ?_)
    refine rgK 12 (h := ?_)
    refine rgK 13 (h := ?_)
    refine rgK 14 (h := ?_)
    refine rgK 15 (h := ?_)
    refine rgT 16 (h := ?_)
    refine wpAnyH_done (by kernel_rfl) ?_ _
    have HX : Hid (MvP w G H P Q B bb b1 b2 tv R r1 r2 hb qb rb sb sd a0 ts wd c nw (opW w 11 wh tg nn (.slice pa pn pc) (.slice ma mn mc)).drew.drew) := (HQ.out _ (Keeps.refl _ _).drew.drew).mv HK0.out.drew.drew
    clear f1 f3 f4 f5
    go_wp2
    go_ret
    exact ⟨rfl, HX.out⟩
  · by_cases hxn : nn ≥ (nT : Int)
    · have hto : thO B nn = none := by unfold thO; rw [if_neg (by omega)]
      have HTO : Hid (thO B nn = none) := hto
      have d1 : (nn < 0) = False := by simp; omega
      have d2 : decide (nn < 0) = false := by simp; omega
      clear hto hnB hnR hnT hx0
      go_enter Tryz.func36, Tryz.ntmps36
      go_wp2_with fail
      (refine wp_region_held_drew (S := (fun W => W.cell? ⟨sd, 1, none⟩ = some (.pointer (some ⟨bb, 0, none⟩)) ∧ W.cell? ⟨w.heap.size, 3, none⟩ = some (.int .i64 nn))) (by kernel_rfl) ⟨f1, f4⟩ (fun hHeld => ?_); simp only [List.size_toArray, List.length_cons, List.length_nil, Nat.reduceAdd, Array.replicate_succ, Array.replicate_zero, List.push_toArray, List.append_toArray, List.nil_append, List.cons_append])
      refine rgT 0 (h := ?_)
      refine rgT 1 (h := ?_)
      refine rgT 2 (h := ?_)
      refine rgT 3 (h := ?_)
      refine rgT 4 (h := ?_)
      refine rgT 5 (h := ?_)
      (refine rgS 6 (h := fun K hK => ?_); go_simp)
      refine (HT.out _ (Keeps.refl _ _).drew).mono ?_
      rintro e w2 ⟨rfl, rfl⟩
      rw [HTO.out]
      (refine hK.out _ _ ⟨f1, f4⟩ (fun hHeld => ?_); clear hK K; try simp only [Act.put, List.setIfInBounds_toArray, List.set_cons_zero, List.set_cons_succ])
      refine rgT 7 (h := ?_)
      refine wpAnyH_done (by kernel_rfl) ?_ _
      go_wp2_with fail
      (refine wp_region_held_drew (S := (fun W => W.cell? ⟨w.heap.size, 3, none⟩ = some (.int .i64 nn) ∧ W.cell? ⟨sd, 3, none⟩ = some (.pointer (some ⟨R.bk, 0, none⟩)) ∧ W.cell? ⟨R.bk, 1, none⟩ = some (.slice (some ⟨R.tb, 0, none⟩) nT R.tc))) (by kernel_rfl) ⟨f4, f3, f5⟩ (fun hHeld => ?_); simp only [List.size_toArray, List.length_cons, List.length_nil, Nat.reduceAdd, Array.replicate_succ, Array.replicate_zero, List.push_toArray, List.append_toArray, List.nil_append, List.cons_append])
      refine rgT 0 (h := ?_)
      refine rgT 1 (h := ?_)
      refine rgT 2 (h := ?_)
      refine rgT 3 (h := ?_)
      refine rgT 4 (h := ?_)
      refine rgT 5 (h := ?_)
      refine rgT 6 (h := ?_)
      refine rgT 7 (h := ?_)
      refine rgT 8 (h := ?_)
      refine rgT 9 (h := ?_)
      refine rgT 10 (h := ?_)
      refine rgT 11 (h := ?_)
      refine rgT 12 (h := ?_)
      refine rgT 13 (h := ?_)
      refine rgT 14 (h := ?_)
      refine rgT 15 (h := ?_)
      refine rgT 16 (h := ?_)
      refine wpAnyH_done (by kernel_rfl) ?_ _
      have HX : Hid (MvP w G H P Q B bb b1 b2 tv R r1 r2 hb qb rb sb sd a0 ts wd c nw (opW w 11 wh tg nn (.slice pa pn pc) (.slice ma mn mc)).drew.drew) := (HQ.out _ (Keeps.refl _ _).drew.drew).mv HK0.out.drew.drew
      clear f1 f3 f4 f5
      go_wp2
      go_ret
      exact ⟨rfl, HX.out⟩
    · obtain ⟨i, rfl⟩ : ∃ i : Nat, nn = (i : Int) := ⟨nn.toNat, by omega⟩
      have hiB : i < B.n := by omega
      have hiR : i < R.n := by omega
      have hto : thO B (i : Int) = some ⟨B.T i, 0, none⟩ := by unfold thO; rw [if_pos (by omega), Int.toNat_natCast]
      have HTO : Hid (thO B (i : Int) = some ⟨B.T i, 0, none⟩) := hto
      have i1 : ¬ (i : Int) < 0 := hx0
      have i2 : ¬ (i : Int) ≥ (nT : Int) := hxn
      have i3 : (0 : Int) ≤ (i : Int) := Int.natCast_nonneg _
      have i4 : (i : Int) < (nT : Int) := by omega
      obtain ⟨X, hX⟩ : ∃ X, X = [a.2.rg i 0, a.2.rg i 1, a.2.rg i 2, a.2.rg i 3] := ⟨_, rfl⟩
      have hXl : X.length = 4 := by rw [hX]; rfl
      have HR : Hid (∀ W, Keeps (fun y => w.heap.size < y) (opW w 11 wh tg (i : Int) (.slice pa pn pc) (.slice ma mn mc)) W → (W.cell? ⟨R.tb, i * 3 + 1, none⟩ = some (.slice (some ⟨R.rb i, 0, none⟩) 4 4)) ∧ InG wdC W W.heap.size (.slice (some ⟨R.rb i, 0, none⟩) X.length 4) X) := fun W k => by
        have hr := (HF.out W k).2.2.2.2
        exact ⟨hr.t1 i hiR, by rw [hX]; exact hr.regs i hiR⟩
      have HXX : Hid (X = [a.2.rg i 0, a.2.rg i 1, a.2.rg i 2, a.2.rg i 3] ∧ X.length = 4) := ⟨hX, hXl⟩
      have HTG : Hid (∀ W, Keeps (fun _ => False) (opW w 11 wh tg (i : Int) (.slice pa pn pc) (.slice ma mn mc)) W → ∃ (ia : Option Addr) (m cap pl : Nat), Tg W (B.T i) B.L ia m cap (a.2.rg i) pl) := fun W k => ⟨_, _, _, _, (HQ.out W k).q.b.o.th i hiB⟩
      clear hto hnB hnR hnT hX
      go_enter Tryz.func36, Tryz.ntmps36
      go_wp2_with fail
      (refine wp_region_held_drew (S := (fun W => W.cell? ⟨sd, 1, none⟩ = some (.pointer (some ⟨bb, 0, none⟩)) ∧ W.cell? ⟨w.heap.size, 3, none⟩ = some (.int .i64 (i : Int)))) (by kernel_rfl) ⟨f1, f4⟩ (fun hHeld => ?_); simp only [List.size_toArray, List.length_cons, List.length_nil, Nat.reduceAdd, Array.replicate_succ, Array.replicate_zero, List.push_toArray, List.append_toArray, List.nil_append, List.cons_append])
      refine rgT 0 (h := ?_)
      refine rgT 1 (h := ?_)
      refine rgT 2 (h := ?_)
      refine rgT 3 (h := ?_)
      refine rgT 4 (h := ?_)
      refine rgT 5 (h := ?_)
      (refine rgS 6 (h := fun K hK => ?_); go_simp)
      refine (HT.out _ (Keeps.refl _ _).drew).mono ?_
      rintro e w2 ⟨rfl, rfl⟩
      rw [HTO.out]
      (refine hK.out _ _ ⟨f1, f4⟩ (fun hHeld => ?_); clear hK K; try simp only [Act.put, List.setIfInBounds_toArray, List.set_cons_zero, List.set_cons_succ])
      refine rgT 7 (h := ?_)
      refine wpAnyH_done (by kernel_rfl) ?_ _
      go_wp2_with fail
      (refine wp_region_held_drew (S := (fun W => W.cell? ⟨w.heap.size, 3, none⟩ = some (.int .i64 (i : Int)) ∧ W.cell? ⟨sd, 3, none⟩ = some (.pointer (some ⟨R.bk, 0, none⟩)) ∧ W.cell? ⟨R.bk, 1, none⟩ = some (.slice (some ⟨R.tb, 0, none⟩) nT R.tc))) (by kernel_rfl) ⟨f4, f3, f5⟩ (fun hHeld => ?_); simp only [List.size_toArray, List.length_cons, List.length_nil, Nat.reduceAdd, Array.replicate_succ, Array.replicate_zero, List.push_toArray, List.append_toArray, List.nil_append, List.cons_append])
      refine rgT 0 (h := ?_)
      refine rgT 1 (h := ?_)
      refine rgT 2 (h := ?_)
      refine rgT 3 (h := ?_)
      refine rgT 4 (h := ?_)
      refine rgT 5 (h := ?_)
      refine rgT 6 (h := ?_)
      refine rgT 7 (h := ?_)
      refine rgT 8 (h := ?_)
      refine rgT 9 (h := ?_)
      refine rgT 10 (h := ?_)
      refine rgT 11 (h := ?_)
      refine rgT 12 (h := ?_)
      refine rgT 13 (h := ?_)
      refine rgT 14 (h := ?_)
      refine rgT 15 (h := ?_)
      refine rgT 16 (h := ?_)
      refine wpAnyH_done (by kernel_rfl) ?_ _
      go_wp2_with fail
      obtain ⟨ia, m, cap, pl, htg⟩ := HTG.out (opW w 11 wh tg (i : Int) (.slice pa pn pc) (.slice ma mn mc)).drew.drew (Keeps.refl _ _).drew.drew
      refine (tregs _ (B.T i) B.L ia m cap _ pl htg).mono ?_
      rintro e w1 ⟨v1, rfl, o1, k1⟩
      rw [← HXX.out.1] at o1
      obtain ⟨x1, y1, rfl⟩ := o1.form
      have H1 : Hid (Keeps (fun _ => False) (opW w 11 wh tg (i : Int) (.slice pa pn pc) (.slice ma mn mc)) w1 ∧ OwW w1 (w.heap.size + 1) (.slice x1 X.length y1) X) := ⟨(Keeps.refl _ _).drew.drew.trans k1, by rw [← sz]; exact o1⟩
      have s1 : w.heap.size + 1 ≤ w1.heap.size := by rw [← sz]; exact k1.size
      clear o1 k1 htg f1 f3 f4 f5
      go_wp2_with fail
      obtain ⟨ia2, m2, cap2, pl2, htg⟩ := HTG.out w1 H1.out.1
      refine (tregs _ (B.T i) B.L ia2 m2 cap2 _ pl2 htg).mono ?_
      rintro e w2 ⟨v2, rfl, o2, k2⟩
      rw [← HXX.out.1] at o2
      obtain ⟨x2, y2, rfl⟩ := o2.form
      have HB1 : Hid (∀ g, (Value.slice x1 X.length y1).ownBlock = some g → g < w1.heap.size) := fun g hg => (World.ownsRow.lt H1.out.2 g hg).2
      have s2 : w1.heap.size ≤ w2.heap.size := k2.size
      have H2 : Hid (Keeps (fun y => w.heap.size < y) (opW w 11 wh tg (i : Int) (.slice pa pn pc) (.slice ma mn mc)) w2.drew ∧ OwW w2.drew (w.heap.size + 1) (.slice x1 X.length y1) X ∧ OwW w2.drew w1.heap.size (.slice x2 X.length y2) X) := ⟨((H1.out.1.trans k2).mono (fun _ e => e.elim)).drew, owK (owK H1.out.2 k2 (fun _ _ e => e)) (Keeps.refl (fun _ => False) _).drew (fun _ _ e => e), owK o2 (Keeps.refl (fun _ => False) _).drew (fun _ _ e => e)⟩
      clear o2 k2 htg H1
      obtain ⟨-, g3, g4, g5, -⟩ := HF.out w2.drew H2.out.1
      rw [HNT.out] at g5
      have g6 := (HR.out w2.drew H2.out.1).1
      have HSW : Hid (∀ W, Keeps (fun _ => False) w2.drew W → (Calls Tryz.prog 49 #[.slice x1 4 y1, .slice (some ⟨R.rb i, 0, none⟩) 4 4] W fun e w' => e = .returned (.bool true) ∧ Keeps (fun _ => False) W w') ∧ (Calls Tryz.prog 49 #[.slice x2 4 y2, .slice x1 4 y1] W fun e w' => e = .returned (.bool true) ∧ Keeps (fun _ => False) W w')) := fun W k => by
        have hk := H2.out.1.trans (k.mono (fun _ e => e.elim))
        have b1 := (owK H2.out.2.1 k (fun _ _ e => e)).in
        have b2 := (owK H2.out.2.2 k (fun _ _ e => e)).in
        have s1 := sameW W W.heap.size (Nat.le_refl _) x1 y1 (some ⟨R.rb i, 0, none⟩) 4 X b1 (HR.out W hk).2 (by omega)
        have s2 := sameW W W.heap.size (Nat.le_refl _) x2 y2 x1 y1 X b2 b1 (by omega)
        rw [HXX.out.2] at s1 s2
        exact ⟨s1, s2⟩
      rw [hXl]
      go_wp2_with fail
      (refine wp_region_held_drew (S := (fun W => W.cell? ⟨w.heap.size, 3, none⟩ = some (.int .i64 (i : Int)) ∧ W.cell? ⟨sd, 3, none⟩ = some (.pointer (some ⟨R.bk, 0, none⟩)) ∧ W.cell? ⟨R.bk, 1, none⟩ = some (.slice (some ⟨R.tb, 0, none⟩) nT R.tc) ∧ W.cell? ⟨R.tb, i * 3 + 1, none⟩ = some (.slice (some ⟨R.rb i, 0, none⟩) 4 4))) (by kernel_rfl) ⟨g4, g3, g5, g6⟩ (fun hHeld => ?_); simp only [List.size_toArray, List.length_cons, List.length_nil, Nat.reduceAdd, Array.replicate_succ, Array.replicate_zero, List.push_toArray, List.append_toArray, List.nil_append, List.cons_append])
      refine rgT 0 (h := ?_)
      refine rgT 1 (h := ?_)
      refine rgT 2 (h := ?_)
      refine rgT 3 (h := ?_)
      refine rgT 4 (h := ?_)
      refine rgT 5 (h := ?_)
      refine rgT 6 (h := ?_)
      refine rgT 7 (h := ?_)
      refine rgT 8 (h := ?_)
      refine rgT 9 (h := ?_)
      refine rgT 10 (h := ?_)
      refine rgT 11 (h := ?_)
      refine rgT 12 (h := ?_)
      refine rgT 13 (h := ?_)
      (refine rgS 14 (h := fun K hK => ?_); go_simp)
      refine (HSW.out _ (Keeps.refl _ _)).1.mono ?_
      rintro e w3 ⟨rfl, k3⟩
      have H3 : Hid (Keeps (fun _ => False) w2.drew w3) := k3
      clear g3 g4 g5 g6 k3
      obtain ⟨-, g3, g4, g5, -⟩ := HF.out w3 (H2.out.1.trans (H3.out.mono (fun _ e => e.elim)))
      rw [HNT.out] at g5
      have g6 := (HR.out w3 (H2.out.1.trans (H3.out.mono (fun _ e => e.elim)))).1
      (refine hK.out _ _ ⟨g4, g3, g5, g6⟩ (fun hHeld => ?_); clear hK K; try simp only [Act.put, List.setIfInBounds_toArray, List.set_cons_zero, List.set_cons_succ])
      refine rgT 15 (h := ?_)
      refine rgT 16 (h := ?_)
      refine rgT 17 (h := ?_)
      (refine rgS 18 (h := fun K hK => ?_); go_simp)
      refine (HSW.out _ H3.out).2.mono ?_
      rintro e w4 ⟨rfl, k4⟩
      have H4 : Hid (Keeps (fun y => w.heap.size < y) (opW w 11 wh tg (i : Int) (.slice pa pn pc) (.slice ma mn mc)) w4 ∧ OwW w4 (w.heap.size + 1) (.slice x1 X.length y1) X ∧ OwW w4 w1.heap.size (.slice x2 X.length y2) X) := by
        have k := H3.out.trans k4
        exact ⟨H2.out.1.trans (k.mono (fun _ e => e.elim)), owK H2.out.2.1 k (fun _ _ e => e), owK H2.out.2.2 k (fun _ _ e => e)⟩
      clear g3 g4 g5 g6 k4 H3 H2 HSW
      obtain ⟨-, g3, g4, g5, -⟩ := HF.out w4 H4.out.1
      rw [HNT.out] at g5
      have g6 := (HR.out w4 H4.out.1).1
      (refine hK.out _ _ ⟨g4, g3, g5, g6⟩ (fun hHeld => ?_); clear hK K; try simp only [Act.put, List.setIfInBounds_toArray, List.set_cons_zero, List.set_cons_succ])
      refine rgT 19 (h := ?_)
      refine rgT 20 (h := ?_)
      refine wpAnyH_done (by kernel_rfl) ?_ _
      clear g3 g4 g5 g6
      go_wp2_with fail
      have hw := worded_any w4 _ 100 X (H4.out.2.1.down (Nat.zero_le _)) (by omega)
      rw [HXX.out.2] at hw
      refine hw.mono ?_
      clear hw
      rintro e w5 ⟨rfl, k5⟩
      have H5 : Hid (Keeps (fun y => w.heap.size < y) (opW w 11 wh tg (i : Int) (.slice pa pn pc) (.slice ma mn mc)) w5.drew ∧ OwW w5.drew w1.heap.size (.slice x2 X.length y2) X) := by
        rw [← HXX.out.2] at k5
        exact ⟨(H4.out.1.trans (k5.mono (fun y e => (World.ownsRow.lt H4.out.2.1 y e).1))).drew, owK (owK H4.out.2.2 k5 (fun g hg e => by have := HB1.out g e; have := (World.ownsRow.lt H4.out.2.2 g hg).1; omega)) (Keeps.refl (fun _ => False) _).drew (fun _ _ e => e)⟩
      clear k5 H4
      obtain ⟨-, g3, g4, g5, -⟩ := HF.out w5.drew H5.out.1
      rw [HNT.out] at g5
      have g6 := (HR.out w5.drew H5.out.1).1
      go_wp2_with fail
      (refine wp_region_held_drew (S := (fun W => W.cell? ⟨w.heap.size, 3, none⟩ = some (.int .i64 (i : Int)) ∧ W.cell? ⟨sd, 3, none⟩ = some (.pointer (some ⟨R.bk, 0, none⟩)) ∧ W.cell? ⟨R.bk, 1, none⟩ = some (.slice (some ⟨R.tb, 0, none⟩) nT R.tc) ∧ W.cell? ⟨R.tb, i * 3 + 1, none⟩ = some (.slice (some ⟨R.rb i, 0, none⟩) 4 4))) (by kernel_rfl) ⟨g4, g3, g5, g6⟩ (fun hHeld => ?_); simp only [List.size_toArray, List.length_cons, List.length_nil, Nat.reduceAdd, Array.replicate_succ, Array.replicate_zero, List.push_toArray, List.append_toArray, List.nil_append, List.cons_append])
      refine rgT 0 (h := ?_)
      refine rgT 1 (h := ?_)
      refine rgT 2 (h := ?_)
      refine rgT 3 (h := ?_)
      refine rgT 4 (h := ?_)
      refine rgT 5 (h := ?_)
      refine rgT 6 (h := ?_)
      refine rgT 7 (h := ?_)
      refine rgT 8 (h := ?_)
      refine rgT 9 (h := ?_)
      refine rgT 10 (h := ?_)
      refine rgT 11 (h := ?_)
      refine rgT 12 (h := ?_)
      refine rgT 13 (h := ?_)
      refine rgT 14 (h := ?_)
      refine rgT 15 (h := ?_)
      (refine rgS 16 (h := fun K hK => ?_); go_simp)
      have hw := sameW w5.drew w5.drew.heap.size (Nat.le_refl _) x2 y2 (some ⟨R.rb i, 0, none⟩) 4 X H5.out.2.in (HR.out w5.drew H5.out.1).2 (by omega)
      rw [HXX.out.2] at hw
      refine hw.mono ?_
      clear hw
      rintro e w6 ⟨rfl, k6⟩
      have H6 : Hid (Keeps (fun y => w.heap.size < y) (opW w 11 wh tg (i : Int) (.slice pa pn pc) (.slice ma mn mc)) w6 ∧ OwW w6 w1.heap.size (.slice x2 X.length y2) X) := ⟨H5.out.1.trans (k6.mono (fun _ e => e.elim)), owK H5.out.2 k6 (fun _ _ e => e)⟩
      clear g3 g4 g5 g6 k6 H5
      obtain ⟨-, g3, g4, g5, -⟩ := HF.out w6 H6.out.1
      rw [HNT.out] at g5
      have g6 := (HR.out w6 H6.out.1).1
      (refine hK.out _ _ ⟨g4, g3, g5, g6⟩ (fun hHeld => ?_); clear hK K; try simp only [Act.put, List.setIfInBounds_toArray, List.set_cons_zero, List.set_cons_succ])
      refine rgT 17 (h := ?_)
      refine rgT 18 (h := ?_)
      refine wpAnyH_done (by kernel_rfl) ?_ _
      clear g3 g4 g5 g6
      go_wp2_with fail
      have hw := worded_any w6 _ 120 X (H6.out.2.down (Nat.zero_le _)) (by omega)
      rw [HXX.out.2] at hw
      refine hw.mono ?_
      clear hw
      rintro e w7 ⟨rfl, k7⟩
      have HZ : Hid (MvP w G H P Q B bb b1 b2 tv R r1 r2 hb qb rb sb sd a0 ts wd c nw w7) := by
        rw [← HXX.out.2] at k7
        have k : Keeps (fun y => False ∨ w.heap.size ≤ y) w w7 := ((HK0.out.mono (fun _ e => e.elim)).trans (H6.out.1.mono (fun y e => .inr (by omega)))).trans (k7.mono (fun y e => .inr (by have := (World.ownsRow.lt H6.out.2 y e).1; omega)))
        exact (HP0.out.still k.thin).mv k.thin
      clear k7 H6
      go_wp2
      go_ret
      exact ⟨rfl, HZ.out⟩
end Go.Proofs.YtdpebhdjcgiboaaGreat

namespace Go.Proofs.YtdpebhdjcgiboaaGreat
set_option linter.unusedSimpArgs false
open Go.ChangeShapes Go.WideShapes Go.ChangeAt Go.RowKit Go.MuLone Go.RwLone
set_option linter.unusedVariables false
set_option maxRecDepth 100000
set_option maxHeartbeats 6400000
/-- append: in place, or in a block of its own that leaves the old one as it was. -/
theorem run_app_stay {P : Program} (w : World) (t ty : TypeId) (base : Nat) (e : TypeId) (i : TypeInfo) (z : Value) (size bytes : Nat) (ht : P.underlying t = some (.slice e)) (hi : P.info? e = some i) (hz : i.zero = some z) (hsize : i.size = size) (hby : i.bytes = bytes) (hzs : z.cells.size = size) (hsz : 0 < size)
    (v : Value) (n : Nat) (xs : List Value) (hown : w.ownsRow base e size v n xs)
    (ad : Addr) (m c : Nat) (news : List Value) (hl : news.length = m * size) (hnews : ∀ j u, news[j]? = some u → w.cell? (ad.add j) = some u) (h1 : ∀ u ∈ news, u.oneCell' = true)
    (hm : 0 < m) (h63 : n + m ≤ maxLen) (hbytes : (n + m) * bytes ≤ 140737488355328) (hbase : base ≤ w.heap.size) :
    ∃ g cap w', (Builtin.append_ #[t, t] ty #[v, .slice (some ad) m c]).run P w = .ok (.slice (some ⟨g, 0, none⟩) (n + m) cap) w' ∧ w'.ownsRow base e size (.slice (some ⟨g, 0, none⟩) (n + m) cap) (n + m) (xs ++ news) ∧ ((v.ownBlock = some g ∧ w.grownBy w' v.ownBlock) ∨ (g = w.heap.size ∧ w.grownBy w' none)) ∧ g < w'.heap.size := by
  obtain ⟨g', cap', w', hr, h2, h3, h4, h5⟩ := run_append_lies (P := P) w t ty base e i z size bytes ht hi hz hsize hby hzs hsz v n xs hown ad m c news hl hnews h1 hm h63 hbytes hbase w.heap.size rfl
  refine ⟨g', cap', w', hr, h2, ?_, h5⟩
  subst hsize hby
  rcases h4 with e4 | e4
  · exact .inl ⟨e4, h3⟩
  · right
    refine ⟨e4, ?_⟩
    rcases hown.2 with ⟨rfl, rfl⟩ | ⟨g, cap, cur, rfl, hbg, hg, hnc, hcm, hcs, htake⟩
    · exact h3
    · by_cases hroom : n + m ≤ cap
      · have hfit : n * i.size + news.length ≤ cur.size := by rw [hl, hcs, ← Nat.add_mul]; exact Nat.mul_le_mul_right _ hroom
        have hr2 := run_append_room (P := P) w t ty e i ht hi g n cap cur hg ad m c news hl hnews h1 hroom hfit
        rw [hr] at hr2
        injection hr2 with e1 e2
        injection e1 with e1 _ _
        injection e1 with e1
        injection e1 with e1 _ _
        have := (Array.getElem?_eq_some_iff.1 hg).1
        omega
      · have holds : ∀ j u, xs[j]? = some u → w.cell? ((⟨g, 0, none⟩ : Addr).add j) = some u := hown.cells (g := g) rfl
        have hsmall : n + m ≤ 9223372036854775807 := by simp only [maxLen] at h63; omega
        have hr2 := run_append_grow (P := P) w t ty e i z ht hi hz ⟨g, 0, none⟩ n cap xs hown.1 holds ad m c news hl hnews (by omega) (by omega) (growslice_fits (by omega) hbytes)
        rw [hr] at hr2
        injection hr2 with e1 e2
        rw [e2]
        exact ⟨rfl, rfl, rfl, by simp, fun k hk _ => Below.heap_alloc w.drew _ k hk⟩
theorem app_stay_wp {α : Type} {cs : α → List Value} {wr : World} {o : Oper} {a : Act} {K : Act → World → Prop} {Q : Exit → Act → World → Prop} (s x : Operand) (t e : TypeId)
    (ho : o.op = .call { callee := .builtin .append, args := #[s, x], argTypes := #[t, t] })
    {z : Value} {n bytes : Nat} (hu : Tryz.prog.underlying t = some (.slice e)) (hinfo : (Tryz.prog.info? e).map (fun i => (i.zero, i.size, i.bytes)) = some (some z, n, bytes)) (hzs : z.cells.size = n) (hn0 : 0 < n) (hn : ∀ y, (cs y).length = n)
    (v : Value) (xs : List α) (c : α) (hown : OwG cs e n wr 0 v xs) (hs : a.eval s = v) (g : Nat) (hg : g = wr.heap.size) (hx : a.eval x = .slice (some ⟨g, 0, none⟩) 1 1) (h1 : ∀ u ∈ cs c, u.oneCell' = true)
    (ar : Array Value) (har : ar = (cs c).toArray)
    (hm : xs.length < maxLen) (hbytes : (xs.length + 1) * bytes ≤ 140737488355328)
    (h : ∀ b cap w', OwG cs e n w' 0 (.slice (some ⟨b, 0, none⟩) (xs.length + 1) cap) (xs ++ [c]) → ((v.ownBlock = some b ∧ Keeps (fun k => v.ownBlock = some k) wr w') ∨ (wr.heap.size ≤ b ∧ Keeps (fun _ => False) wr w')) → b < w'.heap.size → K (a.put o.dst (.slice (some ⟨b, 0, none⟩) (xs.length + 1) cap)) w') :
    o.wp Tryz.prog a (wr.alloc (.cells ar e)) K Q := by
  subst hg har
  obtain ⟨i0, hi, hz0, hz1, hz2⟩ := info_parts hinfo
  obtain ⟨b, cap, w', hr, h2, h3, h4⟩ := run_app_stay (P := Tryz.prog) (wr.alloc (.cells (cs c).toArray e)) t o.type 0 e i0 z n bytes hu hi hz0 hz1 hz2 hzs hn0 v xs.length _ (World.ownsRow.alloc hown _)
    ⟨wr.heap.size, 0, none⟩ 1 1 (cs c) (by rw [hn]; omega) (by
      intro j u hj
      rw [addr_add, Nat.zero_add]
      unfold World.cell?
      rw [heap_alloc_last _ _ _ rfl]
      simpa using hj) h1 (by omega) (by omega) hbytes (Nat.zero_le _)
  unfold Oper.wp execOp
  simp only [ho, resolve, invoke, builtin, Sem.run_bind, Sem.run_pure, Result.andThen_ok, List.map_toArray, List.map_cons, List.map_nil, hs, hx, hr]
  refine h b cap w' ?_ ?_ h4
  · have : (xs ++ [c]).length = xs.length + 1 := by simp
    unfold OwG; rw [this, List.flatMap_append, show [c].flatMap cs = cs c from by simp]; exact h2
  · rcases h3 with ⟨e1, k⟩ | ⟨e1, k⟩
    · exact .inl ⟨e1, k.os, k.tape, k.output, by have := k.size; rw [szAl] at this; omega, fun k' hk hne => (k.block k' (by rw [szAl]; omega) (fun e => hne e.symm)).trans (Below.heap_alloc _ _ k' hk)⟩
    · exact .inr ⟨by rw [e1, szAl]; omega, k.os, k.tape, k.output, by have := k.size; rw [szAl] at this; omega, fun k' hk hne => (k.block k' (by rw [szAl]; omega) (by simp)).trans (Below.heap_alloc _ _ k' hk)⟩
theorem app_stay {α : Type} {cs : α → List Value} {wr : World} {ops : Array Oper} {rest : List Oper} {o : Oper} {a : Act} {Q : Exit → Act → World → Prop} (hgd : o.guard = none) (s x : Operand) (t e : TypeId)
    (ho : o.op = .call { callee := .builtin .append, args := #[s, x], argTypes := #[t, t] })
    {z : Value} {n bytes : Nat} (hu : Tryz.prog.underlying t = some (.slice e)) (hinfo : (Tryz.prog.info? e).map (fun i => (i.zero, i.size, i.bytes)) = some (some z, n, bytes)) (hzs : z.cells.size = n) (hn0 : 0 < n) (hn : ∀ y, (cs y).length = n)
    (v : Value) (xs : List α) (c : α) (hown : OwG cs e n wr 0 v xs) (hs : a.eval s = v) (g : Nat) (hg : g = wr.heap.size) (hx : a.eval x = .slice (some ⟨g, 0, none⟩) 1 1) (h1 : ∀ u ∈ cs c, u.oneCell' = true)
    (ar : Array Value) (har : ar = (cs c).toArray)
    (hm : xs.length < maxLen) (hbytes : (xs.length + 1) * bytes ≤ 140737488355328)
    (h : ∀ b cap w', OwG cs e n w' 0 (.slice (some ⟨b, 0, none⟩) (xs.length + 1) cap) (xs ++ [c]) → ((v.ownBlock = some b ∧ Keeps (fun k => v.ownBlock = some k) wr w') ∨ (wr.heap.size ≤ b ∧ Keeps (fun _ => False) wr w')) → b < w'.heap.size → wpList Tryz.prog ops Q rest (a.put o.dst (.slice (some ⟨b, 0, none⟩) (xs.length + 1) cap)) w') :
    wpList Tryz.prog ops Q (o :: rest) a (wr.alloc (.cells ar e)) :=
  wpList_plain hgd fun _ hK => app_stay_wp s x t e ho hu hinfo hzs hn0 hn v xs c hown hs g hg hx h1 ar har hm hbytes (fun b cap w' p1 p2 p3 => hK _ _ (h b cap w' p1 p2 p3))
/-- A row that lies at a, written full of p, and a list that has grown upon it. -/
structure Gr (w : World) (a : Option Addr) (n : Nat) (p : Int) (c : Value) (zs : List Int) : Prop where
  o : OwW w 0 c zs
  l : n ≤ zs.length
  z : ∀ j, j < n → zs[j]? = some p
  g : ∀ g, a = some ⟨g, 0, none⟩ → g < w.heap.size ∧ (c.ownBlock = some g ∨ (c.ownBlock ≠ some g ∧ ∀ j, j < n → w.cell? ⟨g, j, none⟩ = some (.int .u64 p)))
/-- Where it lies. -/
def Cx (a : Option Addr) (c : Value) (x : Nat) : Prop := c.ownBlock = some x ∨ a = some ⟨x, 0, none⟩
theorem Gr.lt {w : World} {a : Option Addr} {n : Nat} {p : Int} {c : Value} {zs : List Int} (h : Gr w a n p c zs) (x : Nat) (hx : Cx a c x) : x < w.heap.size := by
  rcases hx with e | e
  · exact (World.ownsRow.lt h.o x e).2
  · exact (h.g x e).1
theorem owW_cell {w : World} {B g n cap : Nat} {zs : List Int} (h : OwW w B (.slice (some ⟨g, 0, none⟩) n cap) zs) (j : Nat) (x : Int) (hj : zs[j]? = some x) : w.cell? ⟨g, j, none⟩ = some (.int .u64 x) := by
  have hn := (owG_cap h).1
  subst hn
  obtain ⟨hl, he⟩ := List.getElem?_eq_some_iff.1 hj
  exact (World.ownsRow.cellAt h j (by omega)).trans (by rw [flat_wd, List.getElem?_map, hj]; rfl)
theorem owW_block {w : World} {B g : Nat} {c : Value} {zs : List Int} (h : OwW w B c zs) (hg : c.ownBlock = some g) : ∃ cap, c = .slice (some ⟨g, 0, none⟩) zs.length cap := by
  rcases h.2 with ⟨rfl, _⟩ | ⟨g', cap, cur, rfl, _⟩
  · cases hg
  · have e : g' = g := Option.some.inj hg
    subst e
    exact ⟨cap, rfl⟩
theorem Gr.cell {w : World} {a : Option Addr} {n : Nat} {p : Int} {c : Value} {zs : List Int} (h : Gr w a n p c zs) (g : Nat) (hg : a = some ⟨g, 0, none⟩) (j : Nat) (hj : j < n) : w.cell? ⟨g, j, none⟩ = some (.int .u64 p) := by
  rcases (h.g g hg).2 with e | ⟨_, e⟩
  · obtain ⟨cap, rfl⟩ := owW_block h.o e
    exact owW_cell h.o j p (h.z j hj)
  · exact e j hj
theorem Gr.keeps {w w' : World} {D : Nat → Prop} {a : Option Addr} {n : Nat} {p : Int} {c : Value} {zs : List Int} (h : Gr w a n p c zs) (k : Keeps D w w') (hD : ∀ x, D x → ¬ Cx a c x) : Gr w' a n p c zs :=
  ⟨owK h.o k (fun g hg e => hD g e (.inl hg)), h.l, h.z, fun g hg => ⟨Nat.lt_of_lt_of_le (h.g g hg).1 k.size, (h.g g hg).2.imp id (fun e => ⟨e.1, fun j hj => (k.cell (p := ⟨g, j, none⟩) (h.g g hg).1 (fun e' => hD g e' (.inr hg))).trans (e.2 j hj)⟩)⟩⟩
/-- One more. -/
theorem Gr.app {w w' : World} {a : Option Addr} {n : Nat} {p : Int} {c : Value} {zs : List Int} (h : Gr w a n p c zs) {b cap : Nat} {m : Int} (o : OwW w' 0 (.slice (some ⟨b, 0, none⟩) (zs.length + 1) cap) (zs ++ [m])) (k : (c.ownBlock = some b ∧ Keeps (fun k => c.ownBlock = some k) w w') ∨ (w.heap.size ≤ b ∧ Keeps (fun _ => False) w w')) :
    Gr w' a n p (.slice (some ⟨b, 0, none⟩) (zs.length + 1) cap) (zs ++ [m]) ∧ (∀ x, Cx a (.slice (some ⟨b, 0, none⟩) (zs.length + 1) cap) x → Cx a c x ∨ w.heap.size ≤ x) ∧ Keeps (Cx a c) w w' := by
  have hl := h.l
  refine ⟨⟨o, by simp; omega, fun j hj => by rw [List.getElem?_append_left (by omega)]; exact h.z j hj, fun g hg => ?_⟩, fun x hx => ?_, ?_⟩
  · have hlt := (h.g g hg).1
    rcases k with ⟨e, k⟩ | ⟨e, k⟩
    · refine ⟨Nat.lt_of_lt_of_le hlt k.size, ?_⟩
      rcases (h.g g hg).2 with e2 | ⟨e2, e3⟩
      · rw [e] at e2
        exact .inl e2
      · refine .inr ⟨fun e4 => e2 (e.trans e4), fun j hj => (k.cell (p := ⟨g, j, none⟩) hlt (fun e' => e2 e')).trans (e3 j hj)⟩
    · refine ⟨Nat.lt_of_lt_of_le hlt k.size, .inr ⟨fun e4 => by have : b = g := Option.some.inj e4; omega, fun j hj => (k.cell (p := ⟨g, j, none⟩) hlt (fun e' => e')).trans (h.cell g hg j hj)⟩⟩
  · rcases hx with e | e
    · obtain rfl : b = x := Option.some.inj e
      rcases k with ⟨e, _⟩ | ⟨e, _⟩
      · exact .inl (.inl e)
      · exact .inr e
    · exact .inl (.inr e)
  · rcases k with ⟨e, k⟩ | ⟨e, k⟩
    · exact k.mono (fun x e => .inl e)
    · exact k.mono (fun x e => e.elim)
end Go.Proofs.YtdpebhdjcgiboaaGreat
