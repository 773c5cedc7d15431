import Derived.Test.YtdpebhdjcgiboaaGreatKSoP
namespace Go.Proofs.YtdpebhdjcgiboaaGreat
open Go.ChangeShapes Go.WideShapes Go.ChangeAt Go.RowKit Go.MuLone Go.RwLone
set_option linter.unusedVariables false
set_option maxRecDepth 100000
set_option maxHeartbeats 6400000
/-- An outcome of a program. -/
def Good (cs : List Int) (tl : List (List I8)) (x : OuD) : Prop := ∃ u, EndS cs tl u ∧ OutOf cs tl u x.X x.Y
theorem good_word {cs : List Int} {tl : List (List I8)} {x : OuD} (h : Good cs tl x) : ∃ ws u, wrd (tsL (insL tl) tl.length) ws (encS (begA cs tl).2) u ∧ OutOf cs tl u x.X x.Y := by
  obtain ⟨u, ⟨⟨ws, hw⟩, _⟩, ho⟩ := h
  exact ⟨ws, u, hw, ho⟩
theorem words_of (cs : List Int) (tl : List (List I8)) : ∃ f : OuD → List Nat, ∀ x, Good cs tl x → ∃ u, wrd (tsL (insL tl) tl.length) (f x) (encS (begA cs tl).2) u ∧ OutOf cs tl u x.X x.Y := by
  have h : ∀ x : OuD, ∃ ws : List Nat, Good cs tl x → ∃ u, wrd (tsL (insL tl) tl.length) ws (encS (begA cs tl).2) u ∧ OutOf cs tl u x.X x.Y := fun x => by
    by_cases hx : Good cs tl x
    · obtain ⟨ws, hw⟩ := good_word hx
      exact ⟨ws, fun _ => hw⟩
    · exact ⟨[], fun e => absurd e hx⟩
  exact Classical.axiomOfChoice h
/-- So many outcomes at most. -/
theorem good_len {cs : List Int} {tl : List (List I8)} (hsd : soundP cs tl = true) {ys : List OuD} (hs : ys.Pairwise ltU) (hg : ∀ y ∈ ys, Good cs tl y) : ys.length ≤ 6103515625 := by
  obtain ⟨hc4, hn4, _⟩ := sound_facts hsd
  obtain ⟨f, hf⟩ := words_of cs tl
  have hl := pigeon 6103515625 (ys.map (fun y => codeW tl.length (f y))) ?_ ?_
  · rw [List.length_map] at hl
    exact hl
  · rw [List.Nodup, List.pairwise_map]
    refine List.Pairwise.imp_of_mem ?_ hs
    intro a b ha hb hab e
    obtain ⟨u, h1, h2⟩ := hf a (hg a ha)
    obtain ⟨v, h3, h4⟩ := hf b (hg b hb)
    have e2 := codeW_inj (wrd_mem _ h1) (wrd_mem _ h3) e
    rw [e2] at h1
    have e3 := wrd_one _ h1 h3
    subst e3
    have : cmO a.X a.Y b.X b.Y = 0 := by
      rw [h2.1, h2.2, h4.1, h4.2]
      exact cmO_ord.r (wlL (decS u).wo cs.length, regsL (decS u).rg tl.length)
    unfold ltU at hab
    omega
  · intro x hx
    obtain ⟨y, hy, rfl⟩ := List.mem_map.1 hx
    obtain ⟨u, h1, _⟩ := hf y (hg y hy)
    have h2 := codeW_lt (wrd_mem _ h1)
    have h3 : (tl.length + 1) ^ (f y).length ≤ 5 ^ 14 := Nat.le_trans (Nat.pow_le_pow_left (by omega) _) (Nat.pow_le_pow_right (by omega) (word_ten hsd h1))
    have h4 : (5 : Nat) ^ 14 = 6103515625 := by decide
    have h5 : codeW tl.length (f y) < (tl.length + 1) ^ (f y).length := h2
    omega
/-- A program put into another box. -/
theorem RP.rebox {R : Rd} {w : World} {s : Ls} (hR : RdOk R) (h : RP R w s) : RdOk { R with bk := w.heap.size } ∧ RP { R with bk := w.heap.size } (w.alloc (.cells #[.slice (some ⟨R.cb, 0, none⟩) R.wd R.cc, .slice (some ⟨R.tb, 0, none⟩) R.n R.tc] 85)) s := by
  have k : Keeps (fun _ => False) w (w.alloc (.cells #[.slice (some ⟨R.cb, 0, none⟩) R.wd R.cc, .slice (some ⟨R.tb, 0, none⟩) R.n R.tc] 85)) := (Keeps.refl _ _).alloc _
  have h' := h.still k
  have e : (w.alloc (.cells #[.slice (some ⟨R.cb, 0, none⟩) R.wd R.cc, .slice (some ⟨R.tb, 0, none⟩) R.n R.tc] 85)).heap[w.heap.size]? = some (.cells #[.slice (some ⟨R.cb, 0, none⟩) R.wd R.cc, .slice (some ⟨R.tb, 0, none⟩) R.n R.tc] 85) := heap_alloc_last _ _ _ rfl
  refine ⟨⟨fun hf => ?_, hR.tc, hR.tr, hR.rr, hR.ib, hR.sd, hR.ln, hR.n4⟩, ⟨(cell?_heap e 0).trans rfl, (cell?_heap e 1).trans rfl, h'.t0, h'.t1, h'.t2, h'.rg, h'.ce, h'.ro, h'.fz, fun y hy => ?_⟩⟩
  · have : w.heap.size < w.heap.size := h.lt _ (.inl hf)
    omega
  · rcases hy with hy | rfl | hy
    · exact h'.lt y (.inl hy)
    · exact (Array.getElem?_eq_some_iff.1 e).1
    · exact h'.lt y (.inr (.inr hy))
theorem RP.fits {R : Rd} {w : World} {s : Ls} (h : RP R w s) {D : Nat → Prop} {w' : World} (k : Keeps D w w') (hD : ∀ y, fR R y → ¬ D y) : RP R w' s := h.keeps k (fun y e hf => hD y hf e)
/-- What all leaves. -/
structure All (cs : List Int) (tl : List (List I8)) (w w' : World) (M : Nat) (lv : Value) (xs : List OuD) (v : Value) (ys : List OuD) (s : Ls) (P : List Nat → List Int → Prop) : Prop where
  r : OwG ouC 51 2 w' M v ys
  o : ∀ y ∈ ys, OuW w' M y
  s : ys.Pairwise ltU
  g : ∀ y ∈ ys, Good cs tl y
  k : Keeps (fun y => lv.ownBlock = some y) w w'
  n : ∀ g, v.ownBlock = some g → lv.ownBlock = some g ∨ w.heap.size ≤ g
  a : ∀ x ∈ xs, ∃ y ∈ ys, y.X = x.X ∧ y.Y = x.Y
  b : ∀ ws u, P ws u → allT (tsL (insL tl) tl.length) u tl.length = true → ∃ y ∈ ys, OutOf cs tl u y.X y.Y
theorem ins_sorted {xs ys : List OuD} {o : OuD} (hs : xs.Pairwise ltU) (h : InsP xs o ys) : ys.Pairwise ltU ∧ (∀ y ∈ ys, y ∈ xs ∨ y = o) ∧ (∀ x ∈ xs, x ∈ ys) ∧ ∃ y ∈ ys, y.X = o.X ∧ y.Y = o.Y := by
  rcases h with ⟨rfl, x, hx, e1, e2⟩ | ⟨A, D, rfl, rfl, h1, h2⟩
  · exact ⟨hs, fun y hy => .inl hy, fun x hx => hx, x, hx, e1, e2⟩
  · rw [List.pairwise_append] at hs
    refine ⟨?_, fun y hy => ?_, fun x hx => ?_, o, by simp, rfl, rfl⟩
    · rw [List.pairwise_append, List.pairwise_cons]
      refine ⟨hs.1, ⟨h2, hs.2.1⟩, fun a ha b hb => ?_⟩
      rcases List.mem_cons.1 hb with e | e
      · rw [e]; exact h1 a ha
      · exact hs.2.2 a ha b e
    · rcases List.mem_append.1 hy with e | e
      · exact .inl (List.mem_append_left _ e)
      · rcases List.mem_cons.1 e with e | e
        · exact .inr e
        · exact .inl (List.mem_append_right _ e)
    · rcases List.mem_append.1 hx with e | e
      · exact List.mem_append_left _ e
      · exact List.mem_append_right _ (List.mem_cons_of_mem _ e)
end Go.Proofs.YtdpebhdjcgiboaaGreat

namespace Go.Proofs.YtdpebhdjcgiboaaGreat
set_option linter.unusedSimpArgs false
open Go.ChangeShapes Go.WideShapes Go.ChangeAt Go.RowKit Go.MuLone Go.RwLone
set_option linter.unusedVariables false
set_option maxRecDepth 100000
set_option maxHeartbeats 6400000
/-- In the midst of all: the words that begin with one of the first t threads. -/
def hdT (tl : List (List I8)) (s : Ls) (t : Nat) (ws : List Nat) (u : List Int) : Prop := ∃ i ws', i < t ∧ ws = i :: ws' ∧ wrd (tsL (insL tl) tl.length) ws (encS s) u
structure AL (cs : List Int) (tl : List (List I8)) (w0 wr : World) (M : Nat) (lv : Value) (xs : List OuD) (v : Value) (ys : List OuD) (R0 : Rd) (s : Ls) (t : Nat) : Prop where
  l : All cs tl w0 wr M lv xs v ys s (hdT tl s t)
  p : RP R0 wr s
/-- What is asked of a program and a list. -/
structure AP (cs : List Int) (tl : List (List I8)) (w : World) (R : Rd) (s : Ls) (lv : Value) (xs : List OuD) (M N : Nat) : Prop where
  ok : RdOk R
  p : RP R w s
  fn : R.n = tl.length
  fw : R.wd = cs.length
  fi : R.ins = insL tl
  cc : R.wd ≤ R.cc
  fc : Can cs.length tl.length s
  fb : ∃ ws0, wrd (tsL (insL tl) tl.length) ws0 (encS (begA cs tl).2) (encS s)
  fN : ∀ ws u, wrd (tsL (insL tl) tl.length) ws (encS s) u → ws.length ≤ N
  fM : M ≤ w.heap.size
  r : OwG ouC 51 2 w M lv xs
  o : ∀ x ∈ xs, OuW w M x
  fs : xs.Pairwise ltU
  fg : ∀ x ∈ xs, Good cs tl x
  fd : ∀ y, fR R y → ¬ lv.ownBlock = some y
theorem all_any {cs : List Int} {tl : List (List I8)} (hsd : soundP cs tl = true) (N : Nat) : ∀ (w : World) (R : Rd) (s : Ls) (lv : Value) (xs : List OuD) (M : Nat), AP cs tl w R s lv xs M N →
    Calls Tryz.prog 57 #[.agg #[.slice (some ⟨R.cb, 0, none⟩) R.wd R.cc, .slice (some ⟨R.tb, 0, none⟩) R.n R.tc], lv] w fun e w' => ∃ v ys, e = .returned v ∧ All cs tl w w' M lv xs v ys s (fun ws u => wrd (tsL (insL tl) tl.length) ws (encS s) u) := by
  induction N using Nat.strongRecOn with
  | _ N ih =>
  intro w R s lv xs M ap
  obtain ⟨hc4, hn4, hall⟩ := sound_facts hsd
  have HIH : Hid (∀ m, m < N → ∀ (w : World) (R : Rd) (s : Ls) (lv : Value) (xs : List OuD) (M : Nat), AP cs tl w R s lv xs M m →
    Calls Tryz.prog 57 #[.agg #[.slice (some ⟨R.cb, 0, none⟩) R.wd R.cc, .slice (some ⟨R.tb, 0, none⟩) R.n R.tc], lv] w fun e w' => ∃ v ys, e = .returned v ∧ All cs tl w w' M lv xs v ys s (fun ws u => wrd (tsL (insL tl) tl.length) ws (encS s) u)) := ih
  have HAP : Hid (AP cs tl w R s lv xs M N) := ap
  have hwd : 1 ≤ R.wd ∧ R.wd ≤ 4 := by rw [ap.fw]; exact hc4
  have hnn : 1 ≤ R.n ∧ R.n ≤ 4 := by rw [ap.fn]; exact hn4
  have hdn : ∀ t, t < R.n → (tsL (insL tl) tl.length).dn (encS s) t = decide ((R.ins t).length ≤ s.pl t) := fun t ht => by
    show dnI (insL tl) (decS (encS s)) t = _
    rw [dec_enc ap.fc hc4.2 hn4.2, ap.fi]
    rfl
  have HDN : Hid (∀ t, t < R.n → (tsL (insL tl) tl.length).dn (encS s) t = decide ((R.ins t).length ≤ s.pl t)) := hdn
  have hln : ∀ t, t < R.n → (R.ins t).length ≤ 1000 := ap.ok.ln
  obtain ⟨ok0, rp0⟩ := RP.rebox ap.ok ap.p
  have k0 : Keeps (fun _ => False) w (w.alloc (.cells #[.slice (some ⟨R.cb, 0, none⟩) R.wd R.cc, .slice (some ⟨R.tb, 0, none⟩) R.n R.tc] 85)) := (Keeps.refl _ _).alloc _
  have HK0 : Hid (Keeps (fun _ => False) w (w.alloc (.cells #[.slice (some ⟨R.cb, 0, none⟩) R.wd R.cc, .slice (some ⟨R.tb, 0, none⟩) R.n R.tc] 85)) ∧ RdOk { R with bk := w.heap.size } ∧ (∀ y, fR { R with bk := w.heap.size } y → ¬ lv.ownBlock = some y)) := ⟨k0, ok0, fun y hy e => by
    rcases hy with hy | rfl | hy
    · exact ap.fd y (.inl hy) e
    · have := (World.ownsRow.lt ap.r _ e).2; have h2 : w.heap.size < w.heap.size := this; omega
    · exact ap.fd y (.inr (.inr hy)) e⟩
  have HA0 : Hid (AL cs tl (w.alloc (.cells #[.slice (some ⟨R.cb, 0, none⟩) R.wd R.cc, .slice (some ⟨R.tb, 0, none⟩) R.n R.tc] 85)) (w.alloc (.cells #[.slice (some ⟨R.cb, 0, none⟩) R.wd R.cc, .slice (some ⟨R.tb, 0, none⟩) R.n R.tc] 85)) M lv xs lv xs { R with bk := w.heap.size } s 0) :=
    ⟨⟨owK ap.r k0 (fun _ _ e => e), fun y hy => (ap.o y hy).keeps k0 (fun _ _ _ _ e => e), ap.fs, ap.fg, Keeps.refl _ _, fun g hg => .inl hg, fun x hx => ⟨x, hx, rfl, rfl⟩, fun ws u ⟨i, _, hi, _⟩ => by omega⟩, rp0⟩
  clear ap hdn ih ok0 rp0 k0 hall
  go_enter Tryz.func57, Tryz.ntmps57
  go_wp2_with fail
  generalize w.alloc (.cells #[.slice (some ⟨R.cb, 0, none⟩) R.wd R.cc, .slice (some ⟨R.tb, 0, none⟩) R.n R.tc] 85) = w0 at *
  go_loopw [1, 5, 6] (fun c1 c5 c6 wr => ∃ (t : Nat) (ys : List OuD), c6 = .int .i64 (t : Int) ∧ c5 = .bool (allT (tsL (insL tl) tl.length) (encS s) t) ∧ t ≤ R.n ∧ AL cs tl w0 wr M lv xs c1 ys { R with bk := w.heap.size } s t) (fun _ _ c _ => R.n - (intOf c).toNat)
  case atStart => exact ⟨0, xs, rfl, rfl, Nat.zero_le _, HA0.out⟩
  case round =>
    rename World => wr
    obtain ⟨t, ys, rfl, rfl, ht, hA⟩ := hrel
    obtain ⟨va, vc, hvv⟩ := hA.l.r.form
    obtain ⟨yn, hyn⟩ : ∃ yn, ys.length = yn := ⟨_, rfl⟩
    rw [hyn] at hvv
    subst hvv
    have HA : Hid (AL cs tl w0 wr M lv xs (.slice va yn vc) ys { R with bk := w.heap.size } s t) := hA
    have HYN : Hid (ys.length = yn) := hyn
    clear hyn
    have t0 : (0 : Int) ≤ (t : Int) := Int.natCast_nonneg _
    obtain ⟨q, hq⟩ : ∃ q, allT (tsL (insL tl) tl.length) (encS s) t = q := ⟨_, rfl⟩
    have HQ : Hid (allT (tsL (insL tl) tl.length) (encS s) t = q) := hq
    rw [hq]
    clear hq
    have cb1 : wr.cell? ⟨w.heap.size, 1, none⟩ = some (.slice (some ⟨R.tb, 0, none⟩) R.n R.tc) := hA.p.p1
    by_cases h5 : t < R.n
    · have t1 : (t : Int) < (R.n : Int) := by omega
      have d0 : wr.drew.cell? ⟨R.tb, t * 3, none⟩ = some (.slice (R.ia t) (R.ins t).length (R.icap t)) := hA.p.t0 t h5
      have d2 : wr.drew.cell? ⟨R.tb, t * 3 + 2, none⟩ = some (.int .i64 (s.pl t : Int)) := hA.p.t2 t h5
      have db : wr.drew.cell? ⟨w.heap.size, 1, none⟩ = some (.slice (some ⟨R.tb, 0, none⟩) R.n R.tc) := cb1
      have hlt := hln t h5
      clear hA
      go_wp2_with fail
      (refine wp_region_held_drew (S := (fun X' => X'.cell? ⟨R.tb, t * 3, none⟩ = some (.slice (R.ia t) (R.ins t).length (R.icap t)) ∧ X'.cell? ⟨R.tb, t * 3 + 2, none⟩ = some (.int .i64 (s.pl t : Int)) ∧ X'.cell? ⟨w.heap.size, 1, none⟩ = some (.slice (some ⟨R.tb, 0, none⟩) R.n R.tc))) (by kernel_rfl) ⟨d0, d2, db⟩ (fun hHeld => ?_); simp only [List.size_toArray, List.length_cons, List.length_nil, Nat.reduceAdd, Array.replicate_succ, Array.replicate_zero, List.push_toArray, List.append_toArray, List.nil_append, List.cons_append])
      refine rgT 0 (h := ?_)
      refine rgT 1 (h := ?_)
      refine rgT 2 (h := ?_)
      refine rgT 3 (h := ?_)
      refine rgT 4 (h := ?_)
      refine rgT 5 (h := ?_)
      refine rgT 6 (h := ?_)
      refine rgT 7 (h := ?_)
      refine rgT 8 (h := ?_)
      refine rgT 9 (h := ?_)
      refine rgT 10 (h := ?_)
      refine rgT 11 (h := ?_)
      refine rgT 12 (h := ?_)
      by_cases hd : s.pl t < (R.ins t).length
      · have hd2 : (s.pl t : Int) < ((R.ins t).length : Int) := by omega
        refine rgT 13 (h := ?_)
        refine wpAnyH_done (by kernel_rfl) ?_ _
        clear hHeld d0 d2 db cb1
        have HRD : Hid (RP { R with bk := w.heap.size } wr.drew s) := HA.out.p.still (Keeps.refl _ _).drew
        go_wp2_with fail
        refine (copied_any wr.drew { R with bk := w.heap.size } HK0.out.2.1 s HRD.out hwd hnn.1 HAP.out.cc hln).mono ?_
        rintro e w2 ⟨cv, tvv, qs, rfl, hp, hql, b2⟩
        obtain ⟨pa, pc, hcv⟩ := hp.oc.form
        rw [wlL_len] at hcv
        obtain ⟨ta, tc2, htv⟩ := hp.ot.form
        rw [hql] at htv
        have hcv : cv = .slice pa R.wd pc := hcv
        have htv : tvv = .slice ta R.n tc2 := htv
        subst hcv htv
        have HP : Hid (Pcq w2 wr.heap.size { R with bk := w.heap.size } s (.slice pa R.wd pc) (.slice ta R.n tc2) qs ∧ qs.length = R.n ∧ Below wr.heap.size wr w2) := ⟨hp, hql, (Below.refl _ _).drew.trans b2⟩
        have k23 : Keeps (fun _ => False) w2 (w2.alloc (.cells #[.slice pa R.wd pc, .slice ta R.n tc2] 85)) := (Keeps.refl _ _).alloc _
        have kr3 : Keeps (fun _ => False) wr (w2.alloc (.cells #[.slice pa R.wd pc, .slice ta R.n tc2] 85)) := (kp_belowx HP.out.2.2).trans k23
        have hq3 : (w2.alloc (.cells #[.slice pa R.wd pc, .slice ta R.n tc2] 85)).heap[w2.heap.size]? = some (.cells #[.slice pa R.wd pc, .slice ta R.n tc2] 85) := heap_alloc_last _ _ _ rfl
        obtain ⟨R1, e1, e2, e3, e4, e5, e6, ok1, rp1, fw1⟩ := Pcq.rp (hp.keeps k23 (fun _ e => e.elim)) hql HK0.out.2.1 hnn.1 hwd.1 (fun i hi => (HA.out.p.ro i hi).keeps kr3 (fun _ _ e => e)) (fun i ib hi e => HA.out.p.lt ib (.inr (.inr ⟨i, hi, e⟩))) kr3.size w2.heap.size hq3
        have H1 : Hid (RdOk R1 ∧ R1.n = R.n ∧ R1.wd = R.wd ∧ R1.ins = R.ins ∧ R1.ia = R.ia ∧ R1.wd ≤ R1.cc ∧ (∀ y, fRw R1 y → wr.heap.size ≤ y) ∧ R1.bk = w2.heap.size) := ⟨ok1, e2, e3, e4, e5, e6, fw1, e1⟩
        have hst := rstep_any R1 ok1 (w2.alloc (.cells #[.slice pa R.wd pc, .slice ta R.n tc2] 85)) s rp1 t (by rw [e2]; exact h5)
        rw [e1] at hst
        have HST : Hid (∀ _ : Unit, _) := fun _ => hst
        have HK3 : Hid (Keeps (fun _ => False) wr (w2.alloc (.cells #[.slice pa R.wd pc, .slice ta R.n tc2] 85))) := kr3
        clear hp hql b2 k23 kr3 hq3 e1 e2 e3 e4 e5 e6 ok1 rp1 fw1 hst
        go_wp2_with fail
        generalize w2.alloc (.cells #[.slice pa R.wd pc, .slice ta R.n tc2] 85) = w3 at *
        refine (HST.out ()).mono ?_
        rintro e w4 ⟨rfl, rp4, k4⟩
        have q0 := rp4.p0
        have q1 := rp4.p1
        rw [H1.out.2.2.2.2.2.2.2] at q0 q1
        rw [H1.out.2.2.2.1, HAP.out.fi] at rp4
        have kr4 : Keeps (fun y => wr.heap.size ≤ y) wr w4 := (HK3.out.mono (fun _ e => e.elim)).trans (k4.mono (fun y e => H1.out.2.2.2.2.2.2.1 y e))
        have H4 : Hid (RP R1 w4 (stI (insL tl) s t) ∧ Keeps (fun y => wr.heap.size ≤ y) wr w4) := ⟨rp4, kr4⟩
        generalize decide ((R1.ins t).length ≤ (stI R1.ins s t).pl t) = bb at *
        clear rp4 k4 kr4 HST
        have hdt := HDN.out t h5
        rw [decide_eq_false (by omega)] at hdt
        have htl : t < tl.length := by rw [← HAP.out.fn]; exact h5
        have hst0 : (tsL (insL tl) tl.length).st (encS s) t = encS (stI (insL tl) s t) := by
          show encS (stI (insL tl) (decS (encS s)) t) = _
          rw [dec_enc HAP.out.fc hc4.2 hn4.2]
        have hN1 : 1 ≤ N := HAP.out.fN [t] _ ⟨htl, hdt, rfl⟩
        have own1 : ∀ g, (Value.slice va yn vc).ownBlock = some g → g < wr.heap.size := fun g hg => (World.ownsRow.lt HA.out.l.r g hg).2
        have AP1 : AP cs tl w4 R1 (stI (insL tl) s t) (.slice va yn vc) ys M (N - 1) := by
          have hap := HAP.out
          have hh := H1.out
          refine ⟨hh.1, H4.out.1, hh.2.1.trans hap.fn, hh.2.2.1.trans hap.fw, hh.2.2.2.1.trans hap.fi, hh.2.2.2.2.2.1, stI_can hap.fc htl (sound_snd hsd t htl), ?_, fun ws u hw => ?_, ?_, owK HA.out.l.r H4.out.2 (fun g hg e => by have := own1 g hg; omega), fun x hx => (HA.out.l.o x hx).keeps H4.out.2 (fun g' c' e' _ e => by have := (Array.getElem?_eq_some_iff.1 e').1; omega), HA.out.l.s, HA.out.l.g, fun y hy e => ?_⟩
          · obtain ⟨ws0, h0⟩ := hap.fb
            have := wrd_end (tsL (insL tl) tl.length) h0 htl hdt
            rw [hst0] at this
            exact ⟨_, this⟩
          · have := hap.fN (t :: ws) u ⟨htl, hdt, by rw [hst0]; exact hw⟩
            rw [List.length_cons] at this
            omega
          · have := hap.fM
            have := HK0.out.1.size
            have := HA.out.l.k.size
            have := H4.out.2.size
            omega
          · have o1 := own1 y e
            rcases hy with hy | hy | ⟨j, hj, hy⟩
            · have := hh.2.2.2.2.2.2.1 y hy; omega
            · have := HP.out.2.2.size; have := hh.2.2.2.2.2.2.2; omega
            · rw [hh.2.2.2.2.1] at hy
              rw [hh.2.1] at hj
              have hf : fR { R with bk := w.heap.size } y := .inr (.inr ⟨j, hj, hy⟩)
              rcases HA.out.l.n y e with e7 | e7
              · exact HK0.out.2.2 y hf e7
              · have := HA0.out.p.lt y hf; omega
        have HAL := HIH.out (N - 1) (by omega) w4 R1 (stI (insL tl) s t) (.slice va yn vc) ys M AP1
        have HAA : Hid (∀ _ : Unit, _) := fun _ => HAL
        clear AP1 HAL own1
        go_wp2_with fail
        refine (HAA.out ()).mono ?_
        rintro e w5 ⟨v5, zs, rfl, a5⟩
        have HN : Hid (AL cs tl w0 w5 M lv xs v5 zs { R with bk := w.heap.size } s (t + 1) ∧ allT (tsL (insL tl) tl.length) (encS s) (t + 1) = false) := by
          have l := HA.out.l
          refine ⟨⟨⟨a5.r, a5.o, a5.s, a5.g, ?_, fun g hg => ?_, fun x hx => ?_, fun ws u ⟨i, ws', hi, hw, hr⟩ hal => ?_⟩, ?_⟩, by rw [allT_succ, hdt, Bool.and_false]⟩
          · have z1 := l.k.size
            have z2 := H4.out.2.size
            refine ⟨a5.k.os.trans (H4.out.2.os.trans l.k.os), a5.k.tape.trans (H4.out.2.tape.trans l.k.tape), a5.k.output.trans (H4.out.2.output.trans l.k.output), Nat.le_trans z1 (Nat.le_trans z2 a5.k.size), fun x hx hnx => ?_⟩
            refine (a5.k.block x (by omega) (fun e => ?_)).trans ((H4.out.2.block x (by omega) (by show ¬ wr.heap.size ≤ x; omega)).trans (l.k.block x hx hnx))
            rcases l.n x e with e7 | e7
            · exact hnx e7
            · omega
          · rcases a5.n g hg with e7 | e7
            · exact l.n g e7
            · have := l.k.size; have := H4.out.2.size; exact .inr (by omega)
          · obtain ⟨y, hy, e1, e2⟩ := l.a x hx
            obtain ⟨z, hz, e3, e4⟩ := a5.a y hy
            exact ⟨z, hz, e3.trans e1, e4.trans e2⟩
          · by_cases e : i < t
            · obtain ⟨y, hy, ho⟩ := l.b ws u ⟨i, ws', e, hw, hr⟩ hal
              obtain ⟨z, hz, e3, e4⟩ := a5.a y hy
              exact ⟨z, hz, by unfold OutOf at *; rw [e3, e4]; exact ho⟩
            · obtain rfl : i = t := by omega
              rw [hw] at hr
              have h3 := hr.2.2
              rw [hst0] at h3
              exact a5.b ws' u h3 hal
          · refine (HA.out.p.fits H4.out.2 (fun y hy e => ?_)).fits a5.k (fun y hy e => ?_)
            · have := HA.out.p.lt y hy; have e : wr.heap.size ≤ y := e; omega
            · rcases l.n y e with e7 | e7
              · exact HK0.out.2.2 y hy e7
              · have := HA0.out.p.lt y hy; omega
        clear a5 HAA q0 q1
        go_wp2
        go_roundw
        case rel => exact ⟨t + 1, zs, by go_num, by rw [HN.out.2], by omega, HN.out.1⟩
        case measure => simp [intOf]; omega
      · have hd2 : ¬ (s.pl t : Int) < ((R.ins t).length : Int) := by omega
        refine rgT 13 (h := ?_)
        refine wpAnyH_done (by kernel_rfl) ?_ _
        clear hHeld d0 d2 db cb1
        have HN : Hid (AL cs tl w0 wr.drew M lv xs (.slice va yn vc) ys { R with bk := w.heap.size } s (t + 1) ∧ allT (tsL (insL tl) tl.length) (encS s) (t + 1) = q) := by
          have hdt := HDN.out t h5
          rw [decide_eq_true (by omega)] at hdt
          have l := HA.out.l
          have kd : Keeps (fun _ => False) wr wr.drew := (Keeps.refl _ _).drew
          refine ⟨⟨⟨owK l.r kd (fun _ _ e => e), fun y hy => (l.o y hy).keeps kd (fun _ _ _ _ e => e), l.s, l.g, l.k.drew, l.n, l.a, fun ws u ⟨i, ws', hi, hw, hr⟩ hal => ?_⟩, HA.out.p.still kd⟩, by rw [allT_succ, HQ.out, hdt, Bool.and_true]⟩
          by_cases e : i < t
          · exact l.b ws u ⟨i, ws', e, hw, hr⟩ hal
          · obtain rfl : i = t := by omega
            rw [hw] at hr
            have := hr.2.1
            rw [hdt] at this
            cases this
        go_wp2
        go_roundw
        case rel => exact ⟨t + 1, ys, by go_num, by rw [HN.out.2], by omega, HN.out.1⟩
        case measure => simp [intOf]; omega
    · obtain rfl : t = R.n := by omega
      clear hA
      have HAW : Hid (∀ ws u, wrd (tsL (insL tl) tl.length) ws (encS s) u → (ws = [] ∧ encS s = u) ∨ hdT tl s R.n ws u) := fun ws u hr => by
        cases ws with
        | nil => exact .inl ⟨rfl, hr⟩
        | cons i ws' => exact .inr ⟨i, ws', by rw [HAP.out.fn]; exact hr.1, rfl, hr⟩
      have HW0 : Hid (Keeps (fun y => lv.ownBlock = some y) w wr ∧ w.heap.size ≤ w0.heap.size) := ⟨(HK0.out.1.mono (fun _ e => e.elim)).trans HA.out.l.k, HK0.out.1.size⟩
      cases q
      · have HF : Hid (All cs tl w wr M lv xs (.slice va yn vc) ys s (fun ws u => wrd (tsL (insL tl) tl.length) ws (encS s) u)) := by
          have l := HA.out.l
          refine ⟨l.r, l.o, l.s, l.g, HW0.out.1, fun g hg => (l.n g hg).imp id (fun e => by have := HW0.out.2; omega), l.a, fun ws u hr hal => ?_⟩
          rcases HAW.out ws u hr with ⟨_, e⟩ | e
          · have h2 := HQ.out
            rw [HAP.out.fn] at h2
            rw [← e, h2] at hal
            cases hal
          · exact l.b ws u e hal
        go_wp2
        go_ret
        first | exact ⟨_, rfl, _, HF.out⟩ | exact ⟨_, _, rfl, HF.out⟩
      · go_wp2_with fail
        refine (rout_any { R with bk := w.heap.size } HK0.out.2.1 wr s HA.out.p HAP.out.cc (by show R.wd ≤ 100; omega)).mono ?_
        rintro e w2 ⟨ca, cc2, ra, rc, rfl, o1, o2, b2⟩
        have hO : OuW w2 M ⟨ca, cc2, ra, rc, wlL s.wo R.wd, regsL s.rg R.n⟩ := ⟨o1.down (by have := HAP.out.fM; have := HW0.out.1.size; omega), o2.down (by have := HAP.out.fM; have := HW0.out.1.size; omega), by show (wlL _ _).length ≤ _; rw [wlL_len]; omega, by show (regsL _ _).length ≤ _; rw [regsL_len]; omega⟩
        obtain ⟨n1, hn1⟩ : ∃ n1, (wlL s.wo R.wd).length = n1 := ⟨_, rfl⟩
        obtain ⟨n2, hn2⟩ : ∃ n2, (regsL s.rg R.n).length = n2 := ⟨_, rfl⟩
        have kr2 : Keeps (fun _ => False) wr w2 := kp_belowx b2
        have k23 : Keeps (fun _ => False) w2 (w2.alloc (.cells #[.slice ca n1 cc2, .slice ra n2 rc] 51)) := (Keeps.refl _ _).alloc _
        have kr3 := kr2.trans k23
        have hin := insert_any (w2.alloc (.cells #[.slice ca n1 cc2, .slice ra n2 rc] 51)) M (by have := HAP.out.fM; have := HW0.out.1.size; have := kr3.size; omega) (.slice va yn vc) ys (owK HA.out.l.r kr3 (fun _ _ e => e)) (fun x hx => (HA.out.l.o x hx).keeps kr3 (fun _ _ _ _ e => e)) HA.out.l.s ⟨ca, cc2, ra, rc, wlL s.wo R.wd, regsL s.rg R.n⟩ (hO.keeps k23 (fun _ _ _ _ e => e)) (good_len hsd HA.out.l.s HA.out.l.g)
        dsimp only at hin
        rw [hn1, hn2] at hin
        have HIN : Hid (∀ _ : Unit, _) := fun _ => hin
        have HK3 : Hid (Keeps (fun _ => False) wr (w2.alloc (.cells #[.slice ca n1 cc2, .slice ra n2 rc] 51))) := kr3
        rw [show (wlL s.wo ({ R with bk := w.heap.size } : Rd).wd).length = n1 from hn1, show (regsL s.rg ({ R with bk := w.heap.size } : Rd).n).length = n2 from hn2]
        clear o1 o2 b2 hO kr2 k23 kr3 hin
        go_wp2_with fail
        generalize w2.alloc (.cells #[.slice ca n1 cc2, .slice ra n2 rc] 51) = w3 at *
        refine (HIN.out ()).mono ?_
        rintro e w4 ⟨v, zs, rfl, hi4⟩
        have HF : Hid (All cs tl w w4 M lv xs v zs s (fun ws u => wrd (tsL (insL tl) tl.length) ws (encS s) u)) := by
          have l := HA.out.l
          have hap := HAP.out
          obtain ⟨s1, s2, s3, s4⟩ := ins_sorted l.s hi4.p
          have hoo : OutOf cs tl (encS s) (wlL s.wo R.wd) (regsL s.rg R.n) := by
            unfold OutOf
            rw [dec_enc hap.fc hc4.2 hn4.2, hap.fw, hap.fn]
            exact ⟨rfl, rfl⟩
          have hes : EndS cs tl (encS s) := ⟨hap.fb, by have h2 := HQ.out; rw [hap.fn] at h2; exact h2⟩
          refine ⟨hi4.r, hi4.o, s1, fun y hy => (s2 y hy).elim (l.g y) (fun e => by rw [e]; exact ⟨encS s, hes, hoo⟩), ?_, fun g hg => ?_, fun x hx => ?_, fun ws u hr hal => ?_⟩
          · have z1 := HW0.out.1.size
            have z2 := HK3.out.size
            refine ⟨hi4.k.os.trans (HK3.out.os.trans HW0.out.1.os), hi4.k.tape.trans (HK3.out.tape.trans HW0.out.1.tape), hi4.k.output.trans (HK3.out.output.trans HW0.out.1.output), Nat.le_trans z1 (Nat.le_trans z2 hi4.k.size), fun x hx hnx => ?_⟩
            refine (hi4.k.block x (by omega) (fun e => ?_)).trans ((HK3.out.block x (by omega) (fun e => e)).trans (HW0.out.1.block x hx hnx))
            rcases l.n x e with e7 | e7
            · exact hnx e7
            · have := HW0.out.2; omega
          · rcases hi4.n g hg with e7 | e7
            · exact (l.n g e7).imp id (fun e => by have := HW0.out.2; omega)
            · have := HW0.out.1.size; have := HK3.out.size; exact .inr (by omega)
          · obtain ⟨y, hy, e1, e2⟩ := l.a x hx
            exact ⟨y, s3 y hy, e1, e2⟩
          · rcases HAW.out ws u hr with ⟨_, e⟩ | e
            · obtain ⟨y, hy, e1, e2⟩ := s4
              refine ⟨y, hy, ?_⟩
              rw [← e]
              unfold OutOf at hoo ⊢
              rw [e1, e2]
              exact hoo
            · obtain ⟨y, hy, ho⟩ := l.b ws u e hal
              exact ⟨y, s3 y hy, ho⟩
        clear hi4 HIN
        go_wp2
        go_ret
        first | exact ⟨_, rfl, _, HF.out⟩ | exact ⟨_, _, rfl, HF.out⟩
end Go.Proofs.YtdpebhdjcgiboaaGreat
