import Derived.Test.YtegnmflbbpfdhaaGreatSk2
namespace Go.Proofs.YtegnmflbbpfdhaaGreat
set_option linter.unusedSimpArgs false
open Go.ChangeShapes Go.WideShapes Go.ChangeAt Go.RowKit Go.MuLone Go.RwLone
set_option linter.unusedVariables false
set_option maxRecDepth 100000
set_option maxHeartbeats 6400000
/-- What does not change of two benches of one program. -/
structure PairOk (B : Bd) (R : Rd) (ts : List (List I8)) (wd : Nat) : Prop where
  hB : BdOk B
  hR : RdOk R
  n1 : B.n = ts.length
  w1 : B.wd = wd
  i1 : B.ins = insL ts
  n2 : R.n = ts.length
  w2 : R.wd = wd
  i2 : R.ins = insL ts
  n4 : 1 ≤ ts.length ∧ ts.length ≤ 4
  w4 : wd ≤ 4
/-- The program's bench and the document's, in the same state. -/
structure Pair (w : World) (G H : Nat → Prop) (B : Bd) (bb hb qb : Nat) (tv : Value) (R : Rd) (rh rq : Nat) (ts : List (List I8)) (a : Hp × Ls) : Prop where
  b : BnF w G B bb hb qb tv a
  r : BsF w H R rh rq a
  dj : ∀ y, G y → ¬ H y
  j : Jb (insL ts) ts.length a
  ph : phA (insL ts) ts.length a ≤ 14
/-- What a play does, on both sides. -/
theorem pair_play {ts : List (List I8)} {a : Hp × Ls} (j : Jb (insL ts) ts.length a) (ph : phA (insL ts) ts.length a ≤ 14) (vs : List (Int × Int × Int)) :
    ∃ d a', Jb (insL ts) ts.length a' ∧ phA (insL ts) ts.length a' ≤ 14 ∧ ∀ l, 14 ≤ l → playP (pureM (insL ts) ts.length) vs l a = (true, l - d, a') := by
  obtain ⟨d, a', j', p, h⟩ := fine_play (budB (insL ts) ts.length) vs a j
  exact ⟨d, a', j', by omega, fun l hl => h l (by omega)⟩
theorem pair_le {ts : List (List I8)} {a : Hp × Ls} (j : Jb (insL ts) ts.length a) (ph : phA (insL ts) ts.length a ≤ 14) (vs : List (Int × Int × Int)) :
    ∃ d a', d ≤ 14 ∧ Jb (insL ts) ts.length a' ∧ phA (insL ts) ts.length a' ≤ 14 ∧ ∀ l, 14 ≤ l → playP (pureM (insL ts) ts.length) vs l a = (true, l - d, a') := by
  obtain ⟨d, a', j', p, h⟩ := fine_play (budB (insL ts) ts.length) vs a j
  exact ⟨d, a', by omega, j', by omega, fun l hl => h l (by omega)⟩
theorem PM_one {R : Rd} {ins : Nat → List I8} {n : Nat} (hi : R.ins = ins) (hn : R.n = n) (vs : List (Int × Int × Int)) (l : Nat) (a : Hp × Ls) : (playP (PM R) vs l a).1 = (playP (pureM ins n) vs l a).1 ∧ (playP (PM R) vs l a).2.1 = (playP (pureM ins n) vs l a).2.1 ∧ (playP (PM R) vs l a).2.2 = (playP (pureM ins n) vs l a).2.2 := by
  subst hi hn
  exact ⟨rfl, rfl, rfl⟩
theorem mcB_one {B : Bd} (hB : BdOk B) {ins : Nat → List I8} {n : Nat} (hi : B.ins = ins) (hn : B.n = n) (vs : List (Int × Int × Int)) (l : Nat) (a : Hp × Ls) : (playP (mcB B hB) vs l a).1 = (playP (pureM ins n) vs l a).1 ∧ (playP (mcB B hB) vs l a).2.1 = (playP (pureM ins n) vs l a).2.1 ∧ (playP (mcB B hB) vs l a).2.2 = (playP (pureM ins n) vs l a).2.2 := by
  subst hi hn
  obtain ⟨h1, h2, h3⟩ := pure_playP B hB vs l a
  exact ⟨h1.symm, h2.symm, h3.symm⟩
section
variable {w w' : World} {G H : Nat → Prop} {B : Bd} {bb hb qb : Nat} {tv : Value} {R : Rd} {rh rq : Nat} {ts : List (List I8)} {a : Hp × Ls} {wd : Nat}
theorem Pair.keeps {D : Nat → Prop} (p : Pair w G H B bb hb qb tv R rh rq ts a) (k : Keeps D w w') (h1 : ∀ y, D y → ¬ G y) (h2 : ∀ y, D y → ¬ H y) : Pair w' G H B bb hb qb tv R rh rq ts a := ⟨p.b.keeps k h1, p.r.keeps k h2, p.dj, p.j, p.ph⟩
theorem Pair.still (p : Pair w G H B bb hb qb tv R rh rq ts a) (k : Keeps (fun _ => False) w w') : Pair w' G H B bb hb qb tv R rh rq ts a := p.keeps k (fun _ e => e.elim) (fun _ e => e.elim)
end
/-- What one turn leaves. -/
def TurnP (w : World) (G H : Nat → Prop) (B : Bd) (bb hb qb : Nat) (tv : Value) (R : Rd) (rh rq : Nat) (ts : List (List I8)) (w' : World) : Prop :=
  ∃ G' H' a', Pair w' G' H' B bb hb qb tv R rh rq ts a' ∧ (∀ y, G' y → G y ∨ w.heap.size ≤ y) ∧ (∀ y, H' y → H y ∨ w.heap.size ≤ y) ∧ Keeps (fun y => G y ∨ H y) w w'
abbrev tuW (w : World) (se lk : Bool) (s : ByteArray) : World := w.alloc (.cells #[.bool se, .bool lk, .string s] 57)
/-- One turn that plays. -/
theorem bench_play (w : World) (G H : Nat → Prop) (B : Bd) (bb hb qb : Nat) (tv : Value) (R : Rd) (rh rq : Nat) (ts : List (List I8)) (wd : Nat) (a : Hp × Ls) (ok : PairOk B R ts wd) (p : Pair w G H B bb hb qb tv R rh rq ts a) (se : Bool) (s : ByteArray) (hs : s.size ≤ 1048576) :
    Calls Tryz.prog 16 #[.pointer (some ⟨bb, 0, none⟩), .pointer (some ⟨R.bk, 0, none⟩), .agg #[.bool se, .bool false, .string s]] w fun e w' => e = .returned (.bool true) ∧ TurnP w G H B bb hb qb tv R rh rq ts w' := by
  obtain ⟨d, a', hd, j', ph', hpl⟩ := pair_le p.j p.ph (dL s.data.toList)
  have k0 : Keeps (fun _ => False) w (tuW w se false s) := (Keeps.refl _ _).alloc _
  have sz : (tuW w se false s).heap.size = w.heap.size + 1 := szAl _ _
  have e0 : (tuW w se false s).heap[w.heap.size]? = some (.cells #[.bool se, .bool false, .string s] 57) := heap_alloc_last _ _ _ rfl
  have hGl := p.b.gl
  have hHl := p.r.gl
  have HP : Hid (Pair (tuW w se false s).drew G H B bb hb qb tv R rh rq ts a) := p.still k0.drew
  have HG : Hid (∀ y, G y ∨ H y → y < w.heap.size) := fun y e => e.elim (hGl y) (hHl y)
  have HOK : Hid (PairOk B R ts wd) := ok
  have HPL : Hid (Jb (insL ts) ts.length a' ∧ phA (insL ts) ts.length a' ≤ 14 ∧ ∀ l, 14 ≤ l → playP (pureM (insL ts) ts.length) (dL s.data.toList) l a = (true, l - d, a')) := ⟨j', ph', hpl⟩
  have c2 : ∀ W, Keeps (fun y => G y ∨ H y ∨ w.heap.size < y) (tuW w se false s).drew W → W.cell? ⟨w.heap.size, 2, none⟩ = some (.string s) := fun W k => (k.cell (p := ⟨w.heap.size, 2, none⟩) (by show w.heap.size < (tuW w se false s).heap.size; omega) (fun e => by rcases e with e | e | e; exact Nat.lt_irrefl _ (hGl _ e); exact Nat.lt_irrefl _ (hHl _ e); exact Nat.lt_irrefl _ e)).trans ((cell?_heap e0 2).trans rfl)
  have HC2 : Hid (∀ W, Keeps (fun y => G y ∨ H y ∨ w.heap.size < y) (tuW w se false s).drew W → W.cell? ⟨w.heap.size, 2, none⟩ = some (.string s)) := c2
  clear p j' ph' hpl hGl hHl c2 k0 ok
  go_enter Tryz.func16, Tryz.ntmps16
  go_wp2_with fail
  (refine wp_region_held_drew (S := (fun W => W.cell? ⟨w.heap.size, 2, none⟩ = some (.string s))) (by kernel_rfl) (HC2.out _ (Keeps.refl _ _)) (fun hHeld => ?_); simp only [List.size_toArray, List.length_cons, List.length_nil, Nat.reduceAdd, Array.replicate_succ, Array.replicate_zero, List.push_toArray, List.append_toArray, List.nil_append, List.cons_append])
  refine rgT 0 (h := ?_)
  refine rgT 1 (h := ?_)
  refine rgT 2 (h := ?_)
  refine rgT 4 (h := ?_)
  refine rgT 5 (h := ?_)
  refine rgT 6 (h := ?_)
  (refine rgS 3 (h := fun K hK => ?_); go_simp)
  refine (bplayF (tuW w se false s).drew G B HOK.out.hB bb hb qb tv a HP.out.b s hs).mono ?_
  rintro e w1 ⟨rfl, G', g1, g2, g3⟩
  obtain ⟨u1, u2, u3⟩ := mcB_one HOK.out.hB HOK.out.i1 HOK.out.n1 (dL s.data.toList) 14 a
  rw [HPL.out.2.2 14 (Nat.le_refl _)] at u1 u2 u3
  rw [u1, u2]
  rw [u3] at g1
  have hret : retI true (14 - d) 14 = (d : Int) := by unfold retI; rw [if_pos rfl]; omega
  rw [hret]
  have H1 : Hid (BnF w1 G' B bb hb qb tv a' ∧ (∀ y, G' y → G y ∨ w.heap.size + 1 ≤ y) ∧ Keeps G (tuW w se false s).drew w1 ∧ BsF w1 H R rh rq a) := ⟨g1, fun y hy => (g2 y hy).imp id (fun e => by rw [← sz]; exact e), g3, HP.out.r.keeps g3 (fun y e => HP.out.dj y e)⟩
  clear g1 g2 g3 u1 u2 u3 hret
  (refine hK.out _ _ (HC2.out _ (H1.out.2.2.1.mono (fun y e => .inl e))) (fun hHeld => ?_); clear hK K; try simp only [Act.put, List.setIfInBounds_toArray, List.set_cons_zero, List.set_cons_succ])
  (refine rgS 7 (h := fun K hK => ?_); go_simp)
  refine (rbplayF w1 H R HOK.out.hR rh rq a H1.out.2.2.2 s hs).mono ?_
  rintro e w2 ⟨d2, hd2, q2, rfl, H', h1, h2, h3⟩
  obtain ⟨u1, u2, u3⟩ := PM_one HOK.out.i2 HOK.out.n2 (dL s.data.toList) 1099511627776 a
  rw [HPL.out.2.2 1099511627776 (by decide)] at u2 u3
  rw [u2] at q2
  rw [u3] at h1
  have hdd : d2 = d := by simp only at q2; omega
  subst hdd
  have H2 : Hid (TurnP w G H B bb hb qb tv R rh rq ts w2) := by
    have s1 := H1.out.2.2.1.size
    have s0 : (tuW w se false s).drew.heap.size = w.heap.size + 1 := sz
    refine ⟨G', H', a', ⟨H1.out.1.keeps h3 (fun y e e' => ?_), h1, fun y e e' => ?_, HPL.out.1, HPL.out.2.1⟩, fun y hy => (H1.out.2.1 y hy).imp id (fun e => by omega), fun y hy => (h2 y hy).imp id (fun e => by omega), ?_⟩
    · rcases H1.out.2.1 y e' with e'' | e''
      · exact HP.out.dj y e'' e
      · have := HG.out y (.inr e); omega
    · have l1 := H1.out.1.gl y e
      rcases h2 y e' with e'' | e''
      · rcases H1.out.2.1 y e with e3 | e3
        · exact HP.out.dj y e3 e''
        · have := HG.out y (.inr e''); omega
      · omega
    · exact (((Keeps.refl _ _).alloc _).drew.trans (H1.out.2.2.1.mono (fun y e => .inl e))).trans (h3.mono (fun y e => .inr e))
  have hk2 := HC2.out w2 ((H1.out.2.2.1.mono (fun y e => .inl e)).trans (h3.mono (fun y e => .inr (.inl e))))
  clear h1 h2 h3 q2 u1 u2 u3 H1
  (refine hK.out _ _ hk2 (fun hHeld => ?_); clear hK K; try simp only [Act.put, List.setIfInBounds_toArray, List.set_cons_zero, List.set_cons_succ])
  refine rgT 8 (h := ?_)
  refine rgT 9 (h := ?_)
  refine wpAnyH_done (by kernel_rfl) ?_ _
  clear hk2
  go_wp2
  go_ret
  exact ⟨rfl, H2.out⟩
end Go.Proofs.YtegnmflbbpfdhaaGreat

namespace Go.Proofs.YtegnmflbbpfdhaaGreat
set_option linter.unusedSimpArgs false
open Go.ChangeShapes Go.WideShapes Go.ChangeAt Go.RowKit Go.MuLone Go.RwLone
set_option linter.unusedVariables false
set_option maxRecDepth 100000
set_option maxHeartbeats 6400000
theorem boutX (w : World) (G : Nat → Prop) (B : Bd) (hB : BdOk B) (bb hb qb : Nat) (tv : Value) (a : Hp × Ls) (b : BnF w G B bb hb qb tv a) (hn4 : 1 ≤ B.n ∧ B.n ≤ 4) (X Y : List Int) (hX : X = wlL a.2.wo B.wd) (hY : Y = regsL a.2.rg B.n) :
    Calls Tryz.prog 22 #[.pointer (some ⟨bb, 0, none⟩)] w fun e w' => ∃ c1 k1 c2 k2, e = .returned (.tuple #[.agg #[.slice c1 X.length k1, .slice c2 Y.length k2], .bool (idleP a.1)]) ∧ OwW w' w.heap.size (.slice c1 X.length k1) X ∧ OwW w' w.heap.size (.slice c2 Y.length k2) Y ∧ BnF w' G B bb hb qb tv a ∧ Keeps G w w' := by
  refine (boutF w G B hB bb hb qb tv a b hn4).mono ?_
  rintro e w' ⟨g, rv, he, o1, o2, b1, k1⟩
  subst hX hY
  obtain ⟨ra, rc, rfl⟩ := o2.form
  have hl : (wlL a.2.wo B.wd).length = B.wd := by simp [wlL]
  rw [hl]
  exact ⟨_, _, _, _, he, o1, o2, b1, k1⟩
theorem routX (w : World) (R : Rd) (hR : RdOk R) (s : Ls) (h : RP R w s) (hc : R.wd ≤ R.cc) (hn : R.wd ≤ 100) (X Y : List Int) (hX : X = wlL s.wo R.wd) (hY : Y = regsL s.rg R.n) :
    Calls Tryz.prog 36 #[.pointer (some ⟨R.bk, 0, none⟩)] w fun e w' => ∃ c1 k1 c2 k2, e = .returned (.agg #[.slice c1 X.length k1, .slice c2 Y.length k2]) ∧ OwW w' w.heap.size (.slice c1 X.length k1) X ∧ OwW w' w.heap.size (.slice c2 Y.length k2) Y ∧ Keeps (fun _ => False) w w' := by
  subst hX hY
  refine (rout_any R hR w s h hc hn).mono ?_
  rintro e w' ⟨ca, cc, ra, rc, he, o1, o2, k1⟩
  exact ⟨_, _, _, _, he, o1, o2, Below.keeps k1 _⟩
/-- One turn that looks. -/
theorem bench_look (w : World) (G H : Nat → Prop) (B : Bd) (bb hb qb : Nat) (tv : Value) (R : Rd) (rh rq : Nat) (ts : List (List I8)) (wd : Nat) (a : Hp × Ls) (ok : PairOk B R ts wd) (p : Pair w G H B bb hb qb tv R rh rq ts a) (se : Bool) (s : ByteArray) :
    Calls Tryz.prog 16 #[.pointer (some ⟨bb, 0, none⟩), .pointer (some ⟨R.bk, 0, none⟩), .agg #[.bool se, .bool true, .string s]] w fun e w' => e = .returned (.bool true) ∧ TurnP w G H B bb hb qb tv R rh rq ts w' := by
  obtain ⟨X, hX⟩ : ∃ X, X = wlL a.2.wo B.wd := ⟨_, rfl⟩
  obtain ⟨Y, hY⟩ : ∃ Y, Y = regsL a.2.rg B.n := ⟨_, rfl⟩
  have k0 : Keeps (fun _ => False) w (tuW w se true s) := (Keeps.refl _ _).alloc _
  have HP : Hid (Pair (tuW w se true s) G H B bb hb qb tv R rh rq ts a) := p.still k0
  have hw4 : X.length ≤ 4 := by rw [hX]; have := ok.w4; have := ok.w1; simp [wlL]; omega
  have hy4 : Y.length ≤ 16 := by rw [hY, regsL_len]; have := ok.n1; have := ok.n4; omega
  have HBO := boutX (tuW w se true s) G B ok.hB bb hb qb tv a HP.out.b (by rw [ok.n1]; exact ok.n4) X Y hX hY
  have HBOO : Hid (∀ _ : Unit, _) := fun _ => HBO
  have HK0 : Hid (Keeps (fun _ => False) w (tuW w se true s)) := k0
  have HOK : Hid (PairOk B R ts wd ∧ X = wlL a.2.wo R.wd ∧ Y = regsL a.2.rg R.n) := ⟨ok, by rw [hX, ok.w1, ok.w2], by rw [hY, ok.n1, ok.n2]⟩
  have hlev : a.1.ev.length ≤ 68719476000 := by have := p.b.iv.b; omega
  clear p HBO k0 ok hX hY
  obtain ⟨idl, hid⟩ : ∃ idl, idl = idleP a.1 := ⟨_, rfl⟩
  have HID : Hid (idl = idleP a.1) := hid
  obtain ⟨ne, hne⟩ : ∃ ne, ne = a.1.ev := ⟨_, rfl⟩
  have HNE : Hid (ne = a.1.ev) := hne
  rw [← hne] at hlev
  rw [← hid] at HBOO
  clear hid hne
  go_enter Tryz.func16, Tryz.ntmps16
  go_wp2_with fail
  refine (HBOO.out ()).mono ?_
  rintro e w1 ⟨c1, k1, c2, k2, rfl, o1, o2, b1, kb⟩
  have kA : Keeps (fun _ => False) w1 (w1.alloc (.cells #[.slice c1 X.length k1, .slice c2 Y.length k2] 34)) := (Keeps.refl _ _).alloc _
  have HB : Hid (∀ W, Keeps (fun _ => False) (w1.alloc (.cells #[.slice c1 X.length k1, .slice c2 Y.length k2] 34)).drew W → Pair W G H B bb hb qb tv R rh rq ts a ∧ OwW W 0 (.slice c1 X.length k1) X ∧ OwW W 0 (.slice c2 Y.length k2) Y ∧ Keeps (fun y => G y ∨ H y) w W) := fun W k => by
    have kk := kA.drew.trans k
    refine ⟨⟨b1.still kk, (HP.out.r.keeps kb (fun y e => HP.out.dj y e)).still kk, HP.out.dj, HP.out.j, HP.out.ph⟩, owK (o1.down (Nat.zero_le _)) kk (fun _ _ e => e), owK (o2.down (Nat.zero_le _)) kk (fun _ _ e => e), ((HK0.out.mono (fun _ e => e.elim)).trans (kb.mono (fun _ e => .inl e))).trans (kk.mono (fun _ e => e.elim))⟩
  have HS : Hid (∀ W, Keeps (fun _ => False) (w1.alloc (.cells #[.slice c1 X.length k1, .slice c2 Y.length k2] 34)).drew W → W.cell? ⟨w1.heap.size, 0, none⟩ = some (.slice c1 X.length k1) ∧ W.cell? ⟨w1.heap.size, 1, none⟩ = some (.slice c2 Y.length k2) ∧ W.cell? ⟨R.bk, 2, none⟩ = some (.pointer (some ⟨rh, 0, none⟩))) := fun W k => by
    have e : W.heap[w1.heap.size]? = some (.cells #[.slice c1 X.length k1, .slice c2 Y.length k2] 34) := (k.block _ (by show w1.heap.size < (w1.alloc _).heap.size; rw [szAl]; omega) (fun e => e)).trans (heap_alloc_last _ _ _ rfl)
    exact ⟨(cell?_heap e 0).trans rfl, (cell?_heap e 1).trans rfl, (HB.out W k).1.r.hp⟩
  clear o1 o2 b1 kb kA HBOO HP HK0
  go_wp2_with fail
  generalize w1.alloc (.cells #[.slice c1 X.length k1, .slice c2 Y.length k2] 34) = W1 at *
  generalize w1.heap.size = ob at *
  (refine wp_region_held_drew (S := (fun W => W.cell? ⟨ob, 0, none⟩ = some (.slice c1 X.length k1) ∧ W.cell? ⟨ob, 1, none⟩ = some (.slice c2 Y.length k2) ∧ W.cell? ⟨R.bk, 2, none⟩ = some (.pointer (some ⟨rh, 0, none⟩)))) (by kernel_rfl) (HS.out _ (Keeps.refl _ _)) (fun hHeld => ?_); simp only [List.size_toArray, List.length_cons, List.length_nil, Nat.reduceAdd, Array.replicate_succ, Array.replicate_zero, List.push_toArray, List.append_toArray, List.nil_append, List.cons_append])
  refine rgT 0 (h := ?_)
  refine rgT 1 (h := ?_)
  refine rgT 2 (h := ?_)
  refine rgT 3 (h := ?_)
  (refine rgS 4 (h := fun K hK => ?_); go_simp)
  refine (routX W1.drew R HOK.out.1.hR a.2 (HB.out _ (Keeps.refl _ _)).1.r.o (HB.out _ (Keeps.refl _ _)).1.r.cw (by rw [HOK.out.1.w2]; have := HOK.out.1.w4; omega) X Y HOK.out.2.1 HOK.out.2.2).mono ?_
  rintro e w2 ⟨c3, k3, c4, k4, rfl, o3, o4, kr⟩
  have H2 : Hid (Keeps (fun _ => False) W1.drew w2) := kr
  have HSO : Hid (∀ _ : Unit, _) := fun _ => sameO w2 w2.heap.size (Nat.le_refl _) c1 k1 c3 k3 X c2 k2 c4 k4 Y (HB.out w2 kr).2.1.in o3.in (by omega) (HB.out w2 kr).2.2.1.in o4.in (by omega)
  clear o3 o4 kr
  (refine hK.out _ _ (HS.out w2 H2.out) (fun hHeld => ?_); clear hK K; try simp only [Act.put, List.setIfInBounds_toArray, List.set_cons_zero, List.set_cons_succ])
  (refine rgS 5 (h := fun K hK => ?_); go_simp)
  refine (HSO.out ()).mono ?_
  rintro e w3 ⟨rfl, k⟩
  have H3 : Hid (Keeps (fun _ => False) W1.drew w3) := H2.out.trans k
  clear k H2 HSO
  (refine hK.out _ _ (HS.out w3 H3.out) (fun hHeld => ?_); clear hK K; try simp only [Act.put, List.setIfInBounds_toArray, List.set_cons_zero, List.set_cons_succ])
  refine rgT 6 (h := ?_)
  refine rgT 7 (h := ?_)
  refine rgT 8 (h := ?_)
  refine rgT 9 (h := ?_)
  refine rgT 10 (h := ?_)
  refine rgT 11 (h := ?_)
  (refine rgS 12 (h := fun K hK => ?_); go_simp)
  obtain ⟨F, qv, ev, en, m, l⟩ := (HB.out w3 H3.out).1.r.m
  refine (ridle_any m).mono ?_
  rintro e w4 ⟨rfl, hw⟩
  have H4 : Hid (Keeps (fun _ => False) W1.drew w4) := by
    show Keeps _ _ _
    rw [hw]
    exact H3.out
  rw [← HID.out]
  clear m l hw H3
  (refine hK.out _ _ (HS.out _ H4.out) (fun hHeld => ?_); clear hK K; try simp only [Act.put, List.setIfInBounds_toArray, List.set_cons_zero, List.set_cons_succ])
  refine rgT 13 (h := ?_)
  refine rgT 14 (h := ?_)
  refine rgT 15 (h := ?_)
  refine rgT 16 (h := ?_)
  refine rgT 18 (h := ?_)
  refine rgT 19 (h := ?_)
  refine rgT 20 (h := ?_)
  refine rgT 21 (h := ?_)
  (refine rgS 17 (h := fun K hK => ?_); go_simp)
  obtain ⟨F1, qv1, ev1, en1, m1, d1, l1, nb1, nt1⟩ := (HB.out w4 H4.out).1.b.h
  refine (bev_any w4 F1 B.T bb hb qb qv1 ev1 en1 a.1 m1 B.L tv (HB.out w4 H4.out).1.b.be (by rw [← HNE.out]; exact hlev)).mono ?_
  rintro e w5 ⟨v5, rfl, o5, k5⟩
  rw [← HNE.out] at o5
  obtain ⟨a5, c5, rfl⟩ := o5.form
  have H5 : Hid (Keeps (fun _ => False) W1.drew w5 ∧ OwE w5 0 (.slice a5 ne.length c5) ne) := ⟨H4.out.trans k5, o5.down (Nat.zero_le _)⟩
  clear m1 d1 l1 nb1 nt1 o5 k5 H4
  (refine hK.out _ _ (HS.out w5 H5.out.1) (fun hHeld => ?_); clear hK K; try simp only [Act.put, List.setIfInBounds_toArray, List.set_cons_zero, List.set_cons_succ])
  (refine rgS 22 (h := fun K hK => ?_); go_simp)
  obtain ⟨F2, qv2, ev2, en2, m2, l2⟩ := (HB.out w5 H5.out.1).1.r.m
  refine (rev_any w5 F2 R.bk rh rq qv2 ev2 en2 a.1 m2 (by rw [← HNE.out]; exact hlev)).mono ?_
  rintro e w6 ⟨v6, rfl, o6, k6⟩
  rw [← HNE.out] at o6
  obtain ⟨a6, c6, rfl⟩ := o6.form
  have H6 : Hid (Keeps (fun _ => False) W1.drew w6) := H5.out.1.trans k6
  have HSE : Hid (∀ _ : Unit, _) := fun _ => sameE w6 w6.heap.size (Nat.le_refl _) a5 c5 a6 c6 ne (owK H5.out.2 k6 (fun _ _ e => e)).in o6.in (by omega)
  clear m2 l2 o6 k6 H5
  (refine hK.out _ _ (HS.out w6 H6.out) (fun hHeld => ?_); clear hK K; try simp only [Act.put, List.setIfInBounds_toArray, List.set_cons_zero, List.set_cons_succ])
  (refine rgS 23 (h := fun K hK => ?_); go_simp)
  refine (HSE.out ()).mono ?_
  rintro e w7 ⟨rfl, k7⟩
  have H7 : Hid (Keeps (fun _ => False) W1.drew w7) := H6.out.trans k7
  clear k7 H6 HSE
  (refine hK.out _ _ (HS.out w7 H7.out) (fun hHeld => ?_); clear hK K; try simp only [Act.put, List.setIfInBounds_toArray, List.set_cons_zero, List.set_cons_succ])
  refine rgT 24 (h := ?_)
  refine rgT 25 (h := ?_)
  refine wpAnyH_done (by kernel_rfl) ?_ _
  go_wp2
  go_ret
  exact ⟨rfl, G, H, a, (HB.out w7 H7.out).1, fun y hy => .inl hy, fun y hy => .inl hy, (HB.out w7 H7.out).2.2.2⟩
end Go.Proofs.YtegnmflbbpfdhaaGreat
