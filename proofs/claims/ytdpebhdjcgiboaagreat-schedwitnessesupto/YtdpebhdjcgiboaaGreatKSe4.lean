import Derived.Test.YtdpebhdjcgiboaaGreatKSe3
namespace Go.Proofs.YtdpebhdjcgiboaaGreat
set_option linter.unusedSimpArgs false
open Go.ChangeShapes Go.WideShapes Go.ChangeAt Go.RowKit Go.MuLone Go.RwLone
set_option linter.unusedVariables false
set_option maxRecDepth 100000
set_option maxHeartbeats 3200000
/-- Is it an instruction over wd cells? -/
def vOk (r : Int) : Prop := -1 ≤ r ∧ r ≤ 3
def snd (wd : Nat) (x : I8) : Prop :=
  (x.op = 1 ∧ (0 ≤ x.c ∧ x.c < (wd : Int)) ∧ (0 ≤ x.r ∧ x.r < 4)) ∨
  (x.op = 2 ∧ (0 ≤ x.c ∧ x.c < (wd : Int)) ∧ vOk x.nr) ∨
  (x.op = 3 ∧ (0 ≤ x.c ∧ x.c < (wd : Int)) ∧ (0 ≤ x.r ∧ x.r < 4) ∧ vOk x.orr ∧ vOk x.nr) ∨
  (x.op = 4 ∧ (0 ≤ x.c ∧ x.c < (wd : Int)) ∧ (0 ≤ x.r ∧ x.r < 4) ∧ vOk x.nr) ∨
  (x.op = 5 ∧ (0 ≤ x.r ∧ x.r < 4) ∧ vOk x.nr ∧ (1 ≤ x.n ∧ x.n ≤ 10))
/-- What an instruction does: the words, the registers, how far the place goes on. -/
def exP (wo rg : Nat → Int) (x : I8) : (Nat → Int) × (Nat → Int) × Nat :=
  if x.op = 1 then (wo, upd rg x.r.toNat (wo x.c.toNat), 1)
  else if x.op = 2 then (upd wo x.c.toNat (valP rg x.nr x.ni), rg, 1)
  else if x.op = 3 then (if wo x.c.toNat = valP rg x.orr x.oi then (upd wo x.c.toNat (valP rg x.nr x.ni), upd rg x.r.toNat 1, 1) else (wo, upd rg x.r.toNat 0, 1))
  else if x.op = 4 then (upd wo x.c.toNat ((wo x.c.toNat + valP rg x.nr x.ni) % 18446744073709551616), upd rg x.r.toNat (wo x.c.toNat), 1)
  else if rg x.r.toNat = valP rg x.nr x.ni then (wo, rg, 1 + x.n.toNat) else (wo, rg, 1)
abbrev iV (x : I8) : Array Value := inC x.op x.c x.r x.nr x.ni x.orr x.oi x.n
theorem work_any (L : Lay) (S : AS) (w : World) (T : Nat) (ia : Option Addr) (m cap : Nat) (rg : Nat → Int) (pl : Nat) (x : I8) (hs : snd S.wd x) (hw : ∀ i, i < S.wd → 0 ≤ S.word i ∧ S.word i < 18446744073709551616)
    (h : Holds w L S) (ht : Tg w T L ia m cap rg pl) (hT : ¬ L.has T) (hr : S.rc = 0) (hn : S.n = 1) (hu : S.use 0 = true) (hm : m ≤ 1000) (hpl : pl < m) :
    Calls Tryz.prog 116 #[.pointer (some ⟨T, 0, none⟩), .agg (iV x)] w fun e w' => e = .returned (.tuple #[]) ∧ ∃ ac, Holds w' L { S with rc := 0, acc := ac, word := (exP S.word rg x).1 } ∧ Tg w' T L ia m cap (exP S.word rg x).2.1 (min (pl + (exP S.word rg x).2.2) m) ∧ Keeps (fun k => L.has k ∨ k = T) w w' := by
  obtain ⟨op, c, r, nr, ni, orr, oi, n⟩ := x
  unfold iV
  rcases hs with ⟨e, hc, hr4⟩ | ⟨e, hc, _⟩ | ⟨e, hc, hr4, _⟩ | ⟨e, hc, hr4, _⟩ | ⟨e, hr4, _, hn1⟩
  · simp only at e hc hr4
    subst e
    refine (work_load L S w T ia m cap rg pl c r nr ni orr oi n hc.1 hc.2 hr4.1 hr4.2 h ht hT hr hn hu hm hpl).mono ?_
    rintro e w' ⟨rfl, a, b, k⟩
    exact ⟨rfl, _, a, b, k⟩
  · simp only at e hc
    subst e
    refine (work_store L S w T ia m cap rg pl c r nr ni orr oi n hc.1 hc.2 h ht hT hr hn hu hm hpl).mono ?_
    rintro e w' ⟨rfl, a, b, k⟩
    exact ⟨rfl, _, a, b, k⟩
  · simp only at e hc hr4
    subst e
    refine (work_swap_any L S w T ia m cap rg pl c r nr ni orr oi n _ _ rfl rfl hc.1 hc.2 hr4.1 hr4.2 h ht hT hr hn hu hm hpl).mono ?_
    rintro e w' ⟨rfl, a, b, k⟩
    refine ⟨rfl, wrap64 (S.acc + 1), ?_⟩
    by_cases hq : S.word c.toNat = valP rg orr oi
    · have e : exP S.word rg ⟨3, c, r, nr, ni, orr, oi, n⟩ = (upd S.word c.toNat (valP rg nr ni), upd rg r.toNat 1, 1) := by simp [exP, hq]
      rw [e]
      rw [if_pos hq] at a
      rw [decide_eq_true hq] at b
      exact ⟨a, b, k⟩
    · have e : exP S.word rg ⟨3, c, r, nr, ni, orr, oi, n⟩ = (S.word, upd rg r.toNat 0, 1) := by simp [exP, hq]
      rw [e]
      rw [if_neg hq] at a
      rw [decide_eq_false hq] at b
      exact ⟨a, b, k⟩
  · simp only at e hc hr4
    subst e
    have hb := hw c.toNat (by omega)
    refine (work_add L S w T ia m cap rg pl c r nr ni orr oi n _ rfl hb.1 hb.2 hc.1 hc.2 hr4.1 hr4.2 h ht hT hr hn hu hm hpl).mono ?_
    rintro e w' ⟨rfl, a, b, k⟩
    rw [IntKind.wrap_u64] at a
    exact ⟨rfl, _, a, b, k⟩
  · simp only at e hr4 hn1
    subst e
    have hS : ∀ W, Holds W L S → Holds W L { S with rc := 0, acc := S.acc, word := S.word } := fun W hh => by
      have : ({ S with rc := 0, acc := S.acc, word := S.word } : AS) = S := by cases S; simp at hr; simp [hr]
      rw [this]; exact hh
    by_cases hq : rg r.toNat = valP rg nr ni
    · have e : exP S.word rg ⟨5, c, r, nr, ni, orr, oi, n⟩ = (S.word, rg, 1 + n.toNat) := by simp [exP, hq]
      rw [e]
      refine (work_skip_hit L S w T ia m cap rg pl c r nr ni orr oi n hq hn1.1 hn1.2 hr4.1 hr4.2 h ht hT hr hn hu hm hpl).mono ?_
      rintro e w' ⟨rfl, a, b, k⟩
      have e2 : (1 + n).toNat = 1 + n.toNat := by omega
      rw [e2] at b
      exact ⟨rfl, _, hS _ a, b, k⟩
    · have e : exP S.word rg ⟨5, c, r, nr, ni, orr, oi, n⟩ = (S.word, rg, 1) := by simp [exP, hq]
      rw [e]
      refine (work_skip_miss L S w T ia m cap rg pl c r nr ni orr oi n hq hr4.1 hr4.2 h ht hT hr hn hu hm hpl).mono ?_
      rintro e w' ⟨rfl, a, b, k⟩
      exact ⟨rfl, _, hS _ a, b, k⟩
/-- A row of instructions in sight. -/
def Ro (w : World) (ia : Option Addr) (ins : List I8) : Prop := ∀ i (hi : i < ins.length), ∃ ib, ia = some ⟨ib, 0, none⟩ ∧ In8 w ib i ins[i].op ins[i].c ins[i].r ins[i].nr ins[i].ni ins[i].orr ins[i].oi ins[i].n
theorem Ro.keeps {w w' : World} {ia : Option Addr} {ins : List I8} {D : Nat → Prop} (h : Ro w ia ins) (k : Keeps D w w') (hn : ∀ ib, ia = some ⟨ib, 0, none⟩ → ¬ D ib) : Ro w' ia ins := fun i hi => by
  obtain ⟨ib, e, h8⟩ := h i hi
  exact ⟨ib, e, h8.keeps k (hn ib e)⟩
/-- A step of a thread: words, registers, place. -/
def tsP (wo rg : Nat → Int) (ins : List I8) (pl : Nat) : (Nat → Int) × (Nat → Int) × Nat :=
  match ins[pl]? with
  | some x => ((exP wo rg x).1, (exP wo rg x).2.1, min (pl + (exP wo rg x).2.2) ins.length)
  | none => (wo, rg, pl)
theorem tsP_in {wo rg : Nat → Int} {ins : List I8} {pl : Nat} (h : pl < ins.length) : tsP wo rg ins pl = ((exP wo rg ins[pl]).1, (exP wo rg ins[pl]).2.1, min (pl + (exP wo rg ins[pl]).2.2) ins.length) := by
  unfold tsP; rw [List.getElem?_eq_getElem h]
theorem tsP_out {wo rg : Nat → Int} {ins : List I8} {pl : Nat} (h : ¬ pl < ins.length) : tsP wo rg ins pl = (wo, rg, pl) := by
  unfold tsP; rw [List.getElem?_eq_none (by omega)]
theorem tstep_any (L : Lay) (S : AS) (w : World) (T : Nat) (ia : Option Addr) (cap : Nat) (ins : List I8) (rg : Nat → Int) (pl : Nat) (hs : ∀ x ∈ ins, snd S.wd x) (hw : ∀ i, i < S.wd → 0 ≤ S.word i ∧ S.word i < 18446744073709551616)
    (h : Holds w L S) (ht : Tg w T L ia ins.length cap rg pl) (hi : Ro w ia ins) (hT : ¬ L.has T) (hib : ∀ ib, ia = some ⟨ib, 0, none⟩ → ¬ (L.has ib ∨ ib = T)) (hr : S.rc = 0) (hn : S.n = 1) (hu : S.use 0 = true) (hm : ins.length ≤ 1000) :
    Calls Tryz.prog 68 #[.pointer (some ⟨T, 0, none⟩)] w fun e w' => e = .returned (.bool (decide (ins.length ≤ (tsP S.word rg ins pl).2.2))) ∧ ∃ ac, Holds w' L { S with rc := 0, acc := ac, word := (tsP S.word rg ins pl).1 } ∧ Tg w' T L ia ins.length cap (tsP S.word rg ins pl).2.1 (tsP S.word rg ins pl).2.2 ∧ Ro w' ia ins ∧ Keeps (fun k => L.has k ∨ k = T) w w' := by
  by_cases hpl : pl < ins.length
  · rw [tsP_in hpl]
    have H : Hid (Holds w L S ∧ Tg w T L ia ins.length cap rg pl ∧ Ro w ia ins ∧ snd S.wd ins[pl]) := ⟨h, ht, hi, hs _ (List.getElem_mem hpl)⟩
    have HI : Hid (∀ ib, ia = some ⟨ib, 0, none⟩ → ¬ (L.has ib ∨ ib = T)) := hib
    obtain ⟨ib, rfl, h8⟩ := hi pl hpl
    have HX : Hid (∀ W, Keeps (fun _ => False) w W → In8 W ib pl ins[pl].op ins[pl].c ins[pl].r ins[pl].nr ins[pl].ni ins[pl].orr ins[pl].oi ins[pl].n) := fun W k => h8.keeps k (fun e => e)
    have hib2 := hib ib rfl
    generalize hx : ins[pl] = x at *
    have HL : Hid (ins.length ≤ 1000 ∧ pl < ins.length) := ⟨hm, hpl⟩
    clear h ht hi hs hib h8 hx
    generalize hmm : ins.length = m at *
    have hnd : decide (m ≤ pl) = false := by simp; omega
    have hp0 : (0 : Int) ≤ (pl : Int) := Int.natCast_nonneg _
    have hp1 : (pl : Int) < (m : Int) := by omega
    go_enter Tryz.func68, Tryz.ntmps68
    go_wp2_with fail
    refine (done_all w T L (some ⟨ib, 0, none⟩) m cap rg pl H.out.2.1).mono ?_
    rintro e W1 ⟨rfl, k1⟩
    have H1 : Hid (Holds W1 L S ∧ Tg W1 T L (some ⟨ib, 0, none⟩) m cap rg pl ∧ Ro W1 (some ⟨ib, 0, none⟩) ins ∧ In8 W1 ib pl x.op x.c x.r x.nr x.ni x.orr x.oi x.n ∧ Keeps (fun k => L.has k ∨ k = T) w W1) := ⟨H.out.1.keeps k1 (fun _ _ e => e), H.out.2.1.keeps k1 (fun e => e), H.out.2.2.1.keeps k1 (fun _ _ e => e), HX.out W1 k1, k1.mono (fun _ e => e.elim)⟩
    have HS : Hid (snd S.wd x) := H.out.2.2.2
    clear H k1 HX
    rw [hnd]
    clear hnd
    go_wp2_with fail
    (refine wp_region_held_drew (S := (fun W => W.cell? ⟨T, 2, none⟩ = some (.slice (some ⟨ib, 0, none⟩) m cap) ∧ W.cell? ⟨ib, pl * 8, none⟩ = some (.int .i64 x.op) ∧ W.cell? ⟨ib, pl * 8 + 1, none⟩ = some (.int .i64 x.c) ∧ W.cell? ⟨ib, pl * 8 + 2, none⟩ = some (.int .i64 x.r) ∧ W.cell? ⟨ib, pl * 8 + 3, none⟩ = some (.int .i64 x.nr) ∧ W.cell? ⟨ib, pl * 8 + 4, none⟩ = some (.int .u64 x.ni) ∧ W.cell? ⟨ib, pl * 8 + 5, none⟩ = some (.int .i64 x.orr) ∧ W.cell? ⟨ib, pl * 8 + 6, none⟩ = some (.int .u64 x.oi) ∧ W.cell? ⟨ib, pl * 8 + 7, none⟩ = some (.int .i64 x.n))) (by kernel_rfl) ⟨H1.out.2.1.i, H1.out.2.2.2.1.c0, H1.out.2.2.2.1.c1, H1.out.2.2.2.1.c2, H1.out.2.2.2.1.c3, H1.out.2.2.2.1.c4, H1.out.2.2.2.1.c5, H1.out.2.2.2.1.c6, H1.out.2.2.2.1.c7⟩ (fun hHeld => ?_); simp only [List.size_toArray, List.length_cons, List.length_nil, Nat.reduceAdd, Array.replicate_succ, Array.replicate_zero, List.push_toArray, List.append_toArray, List.nil_append, List.cons_append])
    refine rgT 0 (h := ?_)
    refine rgT 1 (h := ?_)
    refine rgT 2 (h := ?_)
    refine rgT 3 (h := ?_)
    refine rgT 4 (h := ?_)
    refine rgT 5 (h := ?_)
    refine rgT 6 (h := ?_)
    refine rgT 7 (h := ?_)
    have c7 : W1.drew.cell? ⟨T, 7, none⟩ = some (.int .i64 pl) := H1.out.2.1.p
    (refine rgS 8 (h := fun K hK => ?_); go_simp)
    (refine hK.out _ _ ⟨H1.out.2.1.i, H1.out.2.2.2.1.c0, H1.out.2.2.2.1.c1, H1.out.2.2.2.1.c2, H1.out.2.2.2.1.c3, H1.out.2.2.2.1.c4, H1.out.2.2.2.1.c5, H1.out.2.2.2.1.c6, H1.out.2.2.2.1.c7⟩ (fun hHeld => ?_); clear hK K; try simp only [Act.put, List.setIfInBounds_toArray, List.set_cons_zero, List.set_cons_succ])
    clear c7
    refine rgT 9 (h := ?_)
    refine rgT 10 (h := ?_)
    (refine rgS 11 (h := fun K hK => ?_); go_simp)
    refine (work_any L S W1.drew T (some ⟨ib, 0, none⟩) m cap rg pl x HS.out hw H1.out.1.drew (H1.out.2.1.keeps (Keeps.refl (fun _ => False) _).drew (fun e => e)) hT hr hn hu hm hpl).mono ?_
    rintro e W2 ⟨rfl, ac, h2, t2, k2⟩
    have H2 : Hid (Holds W2 L { S with rc := 0, acc := ac, word := (exP S.word rg x).1 } ∧ Tg W2 T L (some ⟨ib, 0, none⟩) m cap (exP S.word rg x).2.1 (min (pl + (exP S.word rg x).2.2) m) ∧ Ro W2 (some ⟨ib, 0, none⟩) ins ∧ In8 W2 ib pl x.op x.c x.r x.nr x.ni x.orr x.oi x.n ∧ Keeps (fun k => L.has k ∨ k = T) w W2) := ⟨h2, t2, H1.out.2.2.1.keeps ((Keeps.refl _ _).drew.trans k2) HI.out, H1.out.2.2.2.1.keeps ((Keeps.refl _ _).drew.trans k2) hib2, H1.out.2.2.2.2.trans ((Keeps.refl _ _).drew.trans k2)⟩
    clear H1 h2 t2 k2
    (refine hK.out _ _ ⟨H2.out.2.1.i, H2.out.2.2.2.1.c0, H2.out.2.2.2.1.c1, H2.out.2.2.2.1.c2, H2.out.2.2.2.1.c3, H2.out.2.2.2.1.c4, H2.out.2.2.2.1.c5, H2.out.2.2.2.1.c6, H2.out.2.2.2.1.c7⟩ (fun hHeld => ?_); clear hK K; try simp only [Act.put, List.setIfInBounds_toArray, List.set_cons_zero, List.set_cons_succ])
    refine wpAnyH_done (by kernel_rfl) ?_ _
    go_wp2_with fail
    refine (done_all W2 T L (some ⟨ib, 0, none⟩) m cap _ _ H2.out.2.1).mono ?_
    rintro e W3 ⟨rfl, k3⟩
    go_wp2
    go_ret
    exact ⟨rfl, ac, H2.out.1.keeps k3 (fun _ _ e => e), H2.out.2.1.keeps k3 (fun e => e), H2.out.2.2.1.keeps k3 (fun _ _ e => e), H2.out.2.2.2.2.trans (k3.mono (fun _ e => e.elim))⟩
  · rw [tsP_out hpl]
    have hS : ({ S with rc := 0, acc := S.acc, word := S.word } : AS) = S := by cases S; simp at hr; simp [hr]
    have hnd : decide (ins.length ≤ pl) = true := by simp; omega
    have H : Hid (Holds w L S ∧ Tg w T L ia ins.length cap rg pl ∧ Ro w ia ins) := ⟨h, ht, hi⟩
    clear h ht hi hs hib hm
    generalize hmm : ins.length = m at *
    go_enter Tryz.func68, Tryz.ntmps68
    go_wp2_with fail
    refine (done_all w T L ia m cap rg pl H.out.2.1).mono ?_
    rintro e W1 ⟨rfl, k1⟩
    rw [hnd]
    have H1 : Hid (Holds W1 L S ∧ Tg W1 T L ia m cap rg pl ∧ Ro W1 ia ins ∧ Keeps (fun k => L.has k ∨ k = T) w W1) := ⟨H.out.1.keeps k1 (fun _ _ e => e), H.out.2.1.keeps k1 (fun e => e), H.out.2.2.keeps k1 (fun _ _ e => e), k1.mono (fun _ e => e.elim)⟩
    clear H k1
    go_wp2_with fail
    refine (done_all W1 T L ia m cap rg pl H1.out.2.1).mono ?_
    rintro e W2 ⟨rfl, k2⟩
    rw [hnd]
    go_wp2
    go_ret
    exact ⟨by show _ = Ending.returned (Value.bool (decide (m ≤ pl))); rw [hnd]; rfl, S.acc, by rw [hS]; exact H1.out.1.keeps k2 (fun _ _ e => e), H1.out.2.1.keeps k2 (fun e => e), H1.out.2.2.1.keeps k2 (fun _ _ e => e), H1.out.2.2.2.trans (k2.mono (fun _ e => e.elim))⟩
end Go.Proofs.YtdpebhdjcgiboaaGreat
