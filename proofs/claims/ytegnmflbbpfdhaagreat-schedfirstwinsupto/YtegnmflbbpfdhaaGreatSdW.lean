import Derived.Test.YtegnmflbbpfdhaaGreatSdV
namespace Go.Proofs.YtegnmflbbpfdhaaGreat
set_option linter.unusedSimpArgs false
open Go.ChangeShapes Go.WideShapes Go.ChangeAt Go.RowKit Go.MuLone Go.RwLone
set_option linter.unusedVariables false
set_option maxRecDepth 100000
set_option maxHeartbeats 3200000
def wdC (x : Int) : List Value := [.int .u64 x]
/-- The registers of t threads. -/
def regsL (rg : Nat → Nat → Int) (t : Nat) : List Int := (List.range t).flatMap (fun i => [rg i 0, rg i 1, rg i 2, rg i 3])
theorem regsL_len (rg : Nat → Nat → Int) (t : Nat) : (regsL rg t).length = 4 * t := by
  induction t with
  | zero => rfl
  | succ t ih =>
    unfold regsL at ih ⊢
    rw [List.range_succ, List.flatMap_append, List.length_append, ih]
    simp; omega
theorem regsL_succ (rg : Nat → Nat → Int) (t : Nat) : regsL rg (t + 1) = regsL rg t ++ [rg t 0, rg t 1, rg t 2, rg t 3] := by
  unfold regsL
  rw [List.range_succ, List.flatMap_append]
  simp
theorem regsL_get (rg : Nat → Nat → Int) (t i : Nat) (hi : i < t) : (regsL rg t)[4 * i + 2]? = some (rg i 2) := by
  induction t with
  | zero => omega
  | succ t ih =>
    rw [regsL_succ]
    have hl := regsL_len rg t
    by_cases e : i = t
    · subst e
      rw [List.getElem?_append_right (by omega), hl, show 4 * i + 2 - 4 * i = 2 by omega]
      rfl
    · rw [List.getElem?_append_left (by omega)]
      exact ih (by omega)
theorem regs_in {w : World} {T : Nat} {L : Lay} {ib m cap : Nat} {rg : Nat → Int} {pl : Nat} (h : Th w T L ib m cap rg pl) : InG wdC w w.heap.size (.slice (some ⟨T, 3, none⟩) 4 4) [rg 0, rg 1, rg 2, rg 3] := by
  refine ⟨some ⟨T, 3, none⟩, 4, rfl, Nat.le_refl _, (fun e => by cases e), fun j u hj => ⟨T, 3, rfl, h.lt, ?_⟩⟩
  have hlt := (List.getElem?_eq_some_iff.1 hj).1
  have hl : ([rg 0, rg 1, rg 2, rg 3].flatMap wdC).length = 4 := rfl
  have : j = 0 ∨ j = 1 ∨ j = 2 ∨ j = 3 := by omega
  rcases this with rfl | rfl | rfl | rfl
  · exact (h.r 0 (by decide)).trans hj
  · exact (h.r 1 (by decide)).trans hj
  · exact (h.r 2 (by decide)).trans hj
  · exact (h.r 3 (by decide)).trans hj
abbrev zoW (w : World) : World := (w.alloc (.cells #[.slice none 0 0, .slice none 0 0] 34)).alloc (.cells #[.slice none 0 0, .slice none 0 0] 34)
/-- What Outcome reads, behind Peek: the bench, its threads and harness, the cells in the block g. -/
structure Ob (w wb : World) (A : Ad) (dn : Nat → Bool) (rg : Nat → Nat → Int) (S : AS) (bb gt ct g : Nat) : Prop where
  hl : Lb wb A bb (.slice (some ⟨gt, 0, none⟩) A.n ct)
  th : ∀ i, i < A.n → Th wb (A.T i) A.L (A.ib i) 1 (A.cap i) (rg i) (if dn i then 1 else 0)
  hr : ∃ st ev en, Hr wb A.hb A.qb A.n A.pb (fun i => if dn i then 0 else 1) A.cp st ev en
  g0 : wb.cell? ⟨g, 0, none⟩ = some (.int .u64 (S.word 0))
  g1 : wb.cell? ⟨g, 1, none⟩ = some (.int .u64 (S.word 1))
  gm : w.heap.size + 2 ≤ g ∧ g < wb.heap.size
  rb : wb.heap[w.heap.size]? = some (.cells #[.slice none 0 0, .slice none 0 0] 34)
  ob : wb.heap[w.heap.size + 1]? = some (.cells #[.slice (some ⟨g, 0, none⟩) 2 2, .slice none 0 0] 34)
  k : Keeps A.L.has w wb
  bw : A.B ≤ w.heap.size
/-- In the midst of Outcome: t threads' registers are taken. -/
structure Oc (w wb wr : World) (rg : Nat → Nat → Int) (g t : Nat) (rv : Value) : Prop where
  k : Keeps (fun x => x = w.heap.size + 1) wb wr
  ob : wr.heap[w.heap.size + 1]? = some (.cells #[.slice (some ⟨g, 0, none⟩) 2 2, rv] 34)
  ow : OwG wdC 22 1 wr wb.heap.size rv (regsL rg t)
theorem Ob.th' {w wb wr : World} {A : Ad} {dn : Nat → Bool} {rg : Nat → Nat → Int} {S : AS} {bb gt ct g : Nat} (hA : Ly A) (h : Ob w wb A dn rg S bb gt ct g) (k : Keeps (fun x => x = w.heap.size + 1) wb wr) (i : Nat) (hi : i < A.n) : Th wr (A.T i) A.L (A.ib i) 1 (A.cap i) (rg i) (if dn i then 1 else 0) :=
  (h.th i hi).keeps k (by have := (hA.ap i hi).bT; have := h.bw; omega)
theorem Tc.far {A : Ad} (hA : Ly A) {x : Nat} (h : A.B ≤ x) : Tc A x := ⟨0, hA.n4.1, .inr (.inr (.inr (.inr (.inr h))))⟩
theorem Tc.lay {A : Ad} (hA : Ly A) {x : Nat} (h : A.L.has x) : Tc A x := ⟨0, hA.n4.1, .inl h⟩
theorem Ob.lb {w wb wr : World} {A : Ad} {dn : Nat → Bool} {rg : Nat → Nat → Int} {S : AS} {bb gt ct g : Nat} (hA : Ly A) (h : Ob w wb A dn rg S bb gt ct g) (k : Keeps (fun x => x = w.heap.size + 1) wb wr) : Lb wr A bb (.slice (some ⟨gt, 0, none⟩) A.n ct) :=
  h.hl.keeps k (fun x e => Tc.far hA (by have := h.bw; omega))
theorem Ob.hr' {w wb wr : World} {A : Ad} {dn : Nat → Bool} {rg : Nat → Nat → Int} {S : AS} {bb gt ct g : Nat} (hA : Ly A) (h : Ob w wb A dn rg S bb gt ct g) (k : Keeps (fun x => x = w.heap.size + 1) wb wr) : ∃ st ev en, Hr wr A.hb A.qb A.n A.pb (fun i => if dn i then 0 else 1) A.cp st ev en := by
  obtain ⟨st, ev, en, hr⟩ := h.hr
  have a := hA.ap 0 hA.n4.1
  have := h.bw
  exact ⟨st, ev, en, hr.keeps k (by have := a.bh; omega) (by have := a.bq; omega)⟩
/-- The start, behind Peek. -/
theorem Ob.start {w w1 : World} {A : Ad} {x0 : Int} {dn : Nat → Bool} {S : AS} {rg : Nat → Nat → Int} {st : Int} {ev en : Value} {es : List (Int × Int × Int × Int)} {ts : List Nat} {bb gt ct g : Nat} (hA : Ly A) (h : Fw w A x0 dn S rg st ev en es ts) (hl : Lb w A bb (.slice (some ⟨gt, 0, none⟩) A.n ct)) (hp : PeekS (zoW w).drew A.L { S with g0 := 0, rc := 0 } 0 g S.wd w1) :
    Ob w (w1.setCell ⟨w.heap.size + 1, 0, none⟩ (.slice (some ⟨g, 0, none⟩) 2 2)) A dn rg S bb gt ct g ∧ w1.cell? ⟨w.heap.size + 1, 0, none⟩ = some (.slice none 0 0) ∧ w1.frozen? ⟨w.heap.size + 1, 0, none⟩ = false ∧ Lb w1 A bb (.slice (some ⟨gt, 0, none⟩) A.n ct) := by
  have sz : (zoW w).heap.size = w.heap.size + 2 := by rw [szAl, szAl]
  have kz : Keeps (fun _ => False) w (zoW w).drew := (((Keeps.refl _ _).alloc _).alloc _).drew
  have k1 : Keeps A.L.has w w1 := (kz.mono (fun _ e => e.elim)).trans hp.kp
  have bw := h.bs
  have nL : ∀ x, w.heap.size ≤ x → ¬ A.L.has x := fun x hx e => by have := (hA.ap 0 hA.n4.1).lb x e; omega
  have er : w1.heap[w.heap.size]? = some (.cells #[.slice none 0 0, .slice none 0 0] 34) := (hp.kp.block _ (by show w.heap.size < (zoW w).heap.size; omega) (nL _ (Nat.le_refl _))).trans ((Below.heap_alloc _ _ _ (by rw [szAl]; omega)).trans (heap_alloc_last _ _ _ rfl))
  have eo : w1.heap[w.heap.size + 1]? = some (.cells #[.slice none 0 0, .slice none 0 0] 34) := (hp.kp.block _ (by show w.heap.size + 1 < (zoW w).heap.size; omega) (nL _ (by omega))).trans (heap_alloc_last _ _ _ (szAl _ _).symm)
  have ks : Keeps (fun x => A.L.has x ∨ x = w.heap.size + 1) w (w1.setCell ⟨w.heap.size + 1, 0, none⟩ (.slice (some ⟨g, 0, none⟩) 2 2)) := Keeps.setCell (B := fun x => A.L.has x ∨ x = w.heap.size + 1) (k1.mono (fun _ e => .inl e)) (.inr rfl) _
  have gm0 : (zoW w).heap.size ≤ g := hp.g0
  have eg : ∀ j, (w1.setCell ⟨w.heap.size + 1, 0, none⟩ (.slice (some ⟨g, 0, none⟩) 2 2)).cell? ⟨g, j, none⟩ = w1.cell? ⟨g, j, none⟩ := fun j => World.cell?_setCell_other _ _ _ _ (fun e => by have := congrArg Addr.block e; simp at this; omega)
  refine ⟨⟨hl.keeps ks (fun x e => e.elim (Tc.lay hA) (fun e => Tc.far hA (by omega))), fun i hi => (h.th i hi).keeps ks ?_, ⟨st, ev, en, h.hr.keeps ks ?_ ?_⟩, (eg 0).trans ?_, (eg 1).trans ?_, ⟨by omega, by simpa using hp.g1⟩, (Below.heap_setCell _ _ _ _ (by show w.heap.size ≠ w.heap.size + 1; omega)).trans er, by simp [World.setCell, Array.getElem?_modify, eo], ?_, bw⟩, (cell?_heap eo 0).trans rfl, frozen?_heap eo 0, hl.keeps k1 (fun x e => Tc.lay hA e)⟩
  · rintro (e | e)
    · exact (hA.ap i hi).lT e
    · have := (hA.ap i hi).bT; omega
  · rintro (e | e)
    · exact (hA.ap 0 hA.n4.1).lh e
    · have := (hA.ap 0 hA.n4.1).bh; omega
  · rintro (e | e)
    · exact (hA.ap 0 hA.n4.1).lq e
    · have := (hA.ap 0 hA.n4.1).bq; omega
  · have := hp.lo 0 (by rw [h.s4]; decide)
    rw [this]; simp
  · have := hp.lo 1 (by rw [h.s4]; decide)
    rw [this]; simp
  · exact k1.setCellNew (p := ⟨w.heap.size + 1, 0, none⟩) (by show w.heap.size ≤ w.heap.size + 1; omega) _
theorem Oc.app {w wb wr w5 : World} {rg : Nat → Nat → Int} {g t : Nat} {rv v' : Value} {xs : List Int} (h : Oc w wb wr rg g t rv) (hb : Below wb.heap.size wr w5) (ho : OwG wdC 22 1 w5 wb.heap.size v' xs) (hx : xs = regsL rg (t + 1)) (hz : w.heap.size + 1 < wb.heap.size) :
    Oc w wb (w5.setCell ⟨w.heap.size + 1, 1, none⟩ v') rg g (t + 1) v' ∧ w5.cell? ⟨w.heap.size + 1, 1, none⟩ = some rv ∧ w5.frozen? ⟨w.heap.size + 1, 1, none⟩ = false := by
  subst hx
  have eo := (hb.block _ hz).trans h.ob
  have k5 : Keeps (fun x => x = w.heap.size + 1) wb w5 := ⟨hb.os.trans h.k.os, hb.tape.trans h.k.tape, hb.output.trans h.k.output, Nat.le_trans h.k.size hb.size, fun x hx hn => (hb.block x hx).trans (h.k.block x hx hn)⟩
  exact ⟨⟨k5.setCell (p := ⟨w.heap.size + 1, 1, none⟩) rfl _, by simp [World.setCell, Array.getElem?_modify, eo], ho.set (p := ⟨w.heap.size + 1, 1, none⟩) hz _⟩, (cell?_heap eo 1).trans rfl, frozen?_heap eo 1⟩
theorem Oc.last {w wb wr : World} {A : Ad} {dn : Nat → Bool} {rg : Nat → Nat → Int} {S : AS} {bb gt ct g : Nat} {rv : Value} (h : Ob w wb A dn rg S bb gt ct g) (ho : Oc w wb wr rg g A.n rv) (hA : Ly A) :
    (((wr.setCell ⟨w.heap.size, 0, none⟩ (.slice (some ⟨g, 0, none⟩) 2 2)).setCell ⟨w.heap.size, 1, none⟩ rv).drew).heap[w.heap.size]? = some (.cells #[.slice (some ⟨g, 0, none⟩) 2 2, rv] 34) ∧ (((wr.setCell ⟨w.heap.size, 0, none⟩ (.slice (some ⟨g, 0, none⟩) 2 2)).setCell ⟨w.heap.size, 1, none⟩ rv).drew).cell? ⟨g, 0, none⟩ = some (.int .u64 (S.word 0)) ∧ (((wr.setCell ⟨w.heap.size, 0, none⟩ (.slice (some ⟨g, 0, none⟩) 2 2)).setCell ⟨w.heap.size, 1, none⟩ rv).drew).cell? ⟨g, 1, none⟩ = some (.int .u64 (S.word 1)) ∧ OwG wdC 22 1 (((wr.setCell ⟨w.heap.size, 0, none⟩ (.slice (some ⟨g, 0, none⟩) 2 2)).setCell ⟨w.heap.size, 1, none⟩ rv).drew) w.heap.size rv (regsL rg A.n) ∧ Keeps A.L.has w (((wr.setCell ⟨w.heap.size, 0, none⟩ (.slice (some ⟨g, 0, none⟩) 2 2)).setCell ⟨w.heap.size, 1, none⟩ rv).drew) ∧ (((wr.setCell ⟨w.heap.size, 0, none⟩ (.slice (some ⟨g, 0, none⟩) 2 2)).setCell ⟨w.heap.size, 1, none⟩ rv).drew).heap[w.heap.size + 1]? = some (.cells #[.slice (some ⟨g, 0, none⟩) 2 2, rv] 34) ∧ Lb (((wr.setCell ⟨w.heap.size, 0, none⟩ (.slice (some ⟨g, 0, none⟩) 2 2)).setCell ⟨w.heap.size, 1, none⟩ rv).drew) A bb (.slice (some ⟨gt, 0, none⟩) A.n ct) := by
  have hgm := h.gm
  have er : wr.heap[w.heap.size]? = some (.cells #[.slice none 0 0, .slice none 0 0] 34) := (ho.k.block _ (Array.getElem?_eq_some_iff.1 h.rb).1 (by show ¬ w.heap.size = w.heap.size + 1; omega)).trans h.rb
  have eg : ∀ j, (((wr.setCell ⟨w.heap.size, 0, none⟩ (.slice (some ⟨g, 0, none⟩) 2 2)).setCell ⟨w.heap.size, 1, none⟩ rv).drew).cell? ⟨g, j, none⟩ = wb.cell? ⟨g, j, none⟩ := fun j => by
    show ((wr.setCell ⟨w.heap.size, 0, none⟩ (.slice (some ⟨g, 0, none⟩) 2 2)).setCell ⟨w.heap.size, 1, none⟩ rv).cell? ⟨g, j, none⟩ = _
    rw [World.cell?_setCell_other _ _ _ _ (fun e => by have := congrArg Addr.block e; simp at this; omega), World.cell?_setCell_other _ _ _ _ (fun e => by have := congrArg Addr.block e; simp at this; omega)]
    exact ho.k.cell (p := ⟨g, j, none⟩) hgm.2 (by show ¬ g = w.heap.size + 1; omega)
  have kr : Keeps (fun x => x = w.heap.size) wr (((wr.setCell ⟨w.heap.size, 0, none⟩ (.slice (some ⟨g, 0, none⟩) 2 2)).setCell ⟨w.heap.size, 1, none⟩ rv).drew) := ((Keeps.setCell (B := fun x => x = w.heap.size) (Keeps.refl _ _) rfl _).setCell rfl _).drew
  refine ⟨?_, (eg 0).trans h.g0, (eg 1).trans h.g1, ((ho.ow.set (p := ⟨w.heap.size, 0, none⟩) (by show w.heap.size < wb.heap.size; omega) _).set (p := ⟨w.heap.size, 1, none⟩) (by show w.heap.size < wb.heap.size; omega) _).down (by omega), ?_, (kr.block _ (Array.getElem?_eq_some_iff.1 ho.ob).1 (by show ¬ w.heap.size + 1 = w.heap.size; omega)).trans ho.ob, (h.lb hA ho.k).keeps kr (fun x e => Tc.far hA (by have := h.bw; omega))⟩
  · show ((wr.setCell ⟨w.heap.size, 0, none⟩ (.slice (some ⟨g, 0, none⟩) 2 2)).setCell ⟨w.heap.size, 1, none⟩ rv).heap[w.heap.size]? = _
    simp [World.setCell, Array.getElem?_modify, er]
  · have k2 : Keeps (fun x => A.L.has x ∨ w.heap.size ≤ x) w (((wr.setCell ⟨w.heap.size, 0, none⟩ (.slice (some ⟨g, 0, none⟩) 2 2)).setCell ⟨w.heap.size, 1, none⟩ rv).drew) := ((h.k.mono (fun _ e => .inl e)).trans (ho.k.mono (fun x e => .inr (by omega)))).trans (kr.mono (fun x e => .inr (by omega)))
    exact k2.thin
theorem infoW8 : (Tryz.prog.info? 22).map (fun i => (i.zero, i.size, i.bytes)) = some (some (.int .u64 0), 1, 8) := by kernel_rfl
theorem results_row_tmp {P : Program} {fn : Func} {p : Tmp} {ty : TypeId} {q : Tmp} (h : fn.results = #[.cell p ty, .tmp q]) (tmps : Array Value) (w : World) (g : Nat) (t : TypeId) (cs : Array Value) (fr : Nat × Nat) (d : TypeDesc)
    (hp : tmps.getD p undef = .pointer (some ⟨g, 0, none⟩)) (hg : w.heap[g]? = some (.cells cs t fr))
    (hu : P.underlying ty = some d) (hd : (match d with | .struct _ | .array _ _ => true | _ => false) = true) (hi : (P.info? ty).map (·.size) = some cs.size) :
    (results fn tmps).run P w = .ok (.tuple #[.agg cs, tmps.getD q undef]) w := by
  have hp' : tmps[p]?.getD undef = .pointer (some ⟨g, 0, none⟩) := by simpa using hp
  simp [results, h, hp', asAddr, run_loadVar_row w g t ty cs fr d hg hu hd hi]
theorem outcome_any (w : World) (A : Ad) (x0 : Int) (dn : Nat → Bool) (hA : Ly A) (h : Bn w A x0 dn) (bb : Nat) (tv : Value) (hl : Lb w A bb tv) :
    Calls Tryz.prog 22 #[.pointer (some ⟨bb, 0, none⟩)] w fun e w' => ∃ S rg b g rv, e = .returned (.tuple #[.agg #[.slice (some ⟨g, 0, none⟩) 2 2, rv], .bool b]) ∧ Won x0 dn A.n S rg ∧ w'.cell? ⟨g, 0, none⟩ = some (.int .u64 (S.word 0)) ∧ w'.cell? ⟨g, 1, none⟩ = some (.int .u64 (S.word 1)) ∧ OwG wdC 22 1 w' w.heap.size rv (regsL rg A.n) ∧ Keeps A.L.has w w' ∧ w.heap.size ≤ g := by
  obtain ⟨S, rg, st, ev, en, es, ts, hf, hW⟩ := h
  obtain ⟨gt, ct, htv, -, -⟩ := owG_some hl.ot (by have := hA.n4; intro e; have := congrArg List.length e; simp at this; omega)
  rw [List.length_map, List.length_range] at htv
  subst htv
  have HA : Hid (Ly A) := hA
  have HF : Hid (Fw w A x0 dn S rg st ev en es ts ∧ Lb w A bb (.slice (some ⟨gt, 0, none⟩) A.n ct)) := ⟨hf, hl⟩
  have HW : Hid (Won x0 dn A.n S rg) := hW
  have hb0 : bb < w.heap.size := (Array.getElem?_eq_some_iff.1 hl.be).1
  have HZ : Hid (Lb (zoW w) A bb (.slice (some ⟨gt, 0, none⟩) A.n ct) ∧ Holds (zoW w) A.L S) := ⟨hl.keeps (D := fun _ => False) (((Keeps.refl _ _).alloc _).alloc _) (fun _ e => e.elim), (hf.hd.alloc _).alloc _⟩
  have HS := hf.s1
  have HS2 : Hid (S.g0 = 0 ∧ S.rc = 0 ∧ 0 < S.n ∧ S.use 0 = true ∧ S.wd = 2) := ⟨hf.s5, hf.s1, by rw [hf.s2]; decide, hf.s3, hf.s4⟩
  clear hf hW hl hA HS
  have HC := HZ.out.1.be
  go_enter Tryz.func22, Tryz.ntmps22
  go_wp2_with fail
  (refine wp_region_held_drew (S := (fun W => W.cell? ⟨bb, 0, none⟩ = some (.pointer (some ⟨A.L.b, 0, none⟩)) ∧ W.cell? ⟨bb, 1, none⟩ = some (.int .i64 1))) (by kernel_rfl) ⟨(cell?_heap HC 0).trans rfl, (cell?_heap HC 1).trans rfl⟩ (fun hHeld => ?_); simp only [List.size_toArray, List.length_cons, List.length_nil, Nat.reduceAdd, Array.replicate_succ, Array.replicate_zero, List.push_toArray, List.append_toArray, List.nil_append, List.cons_append])
  clear HC
  (refine tk0 (v := ?_) (by kernel_rfl) (by kernel_rfl) (by kernel_rfl) (fun _ _ _ h => h) (Or.inl ⟨by rfl, ?_⟩) (by assumption) ?_; rotate_left; (focus (intro w hSw; (try dsimp only at hSw); go_simp; (try first | (rw [dif_pos (by omega)]; simp only [Result.andThen_ok]) | rw [if_pos (by omega)]); (try with_reducible rfl); done)); try simp only [Act.put, List.setIfInBounds_toArray, List.set_cons_zero, List.set_cons_succ])
  (refine tk1 (v := ?_) (by kernel_rfl) (by kernel_rfl) (by kernel_rfl) (fun _ _ _ h => h) (Or.inl ⟨by rfl, ?_⟩) (by assumption) ?_; rotate_left; (focus (intro w hSw; (try dsimp only at hSw); go_simp; (try first | (rw [dif_pos (by omega)]; simp only [Result.andThen_ok]) | rw [if_pos (by omega)]); (try with_reducible rfl); done)); try simp only [Act.put, List.setIfInBounds_toArray, List.set_cons_zero, List.set_cons_succ])
  (refine tk2 (v := ?_) (by kernel_rfl) (by kernel_rfl) (by kernel_rfl) (fun _ _ _ h => h) (Or.inl ⟨by rfl, ?_⟩) (by assumption) ?_; rotate_left; (focus (intro w hSw; (try dsimp only at hSw); go_simp; (try first | (rw [dif_pos (by omega)]; simp only [Result.andThen_ok]) | rw [if_pos (by omega)]); (try with_reducible rfl); done)); try simp only [Act.put, List.setIfInBounds_toArray, List.set_cons_zero, List.set_cons_succ])
  (refine tk3 (v := ?_) (by kernel_rfl) (by kernel_rfl) (by kernel_rfl) (fun _ _ _ h => h) (Or.inl ⟨by rfl, ?_⟩) (by assumption) ?_; rotate_left; (focus (intro w hSw; (try dsimp only at hSw); go_simp; (try first | (rw [dif_pos (by omega)]; simp only [Result.andThen_ok]) | rw [if_pos (by omega)]); (try with_reducible rfl); done)); try simp only [Act.put, List.setIfInBounds_toArray, List.set_cons_zero, List.set_cons_succ])
  (refine tk4 (v := ?_) (by kernel_rfl) (by kernel_rfl) (by kernel_rfl) (fun _ _ _ h => h) (Or.inl ⟨by rfl, ?_⟩) (by assumption) ?_; rotate_left; (focus (intro w hSw; (try dsimp only at hSw); go_simp; (try first | (rw [dif_pos (by omega)]; simp only [Result.andThen_ok]) | rw [if_pos (by omega)]); (try with_reducible rfl); done)); try simp only [Act.put, List.setIfInBounds_toArray, List.set_cons_zero, List.set_cons_succ])
  (refine tk5 (v := ?_) (by kernel_rfl) (by kernel_rfl) (by kernel_rfl) (fun _ _ _ h => h) (Or.inl ⟨by rfl, ?_⟩) (by assumption) ?_; rotate_left; (focus (intro w hSw; (try dsimp only at hSw); go_simp; (try first | (rw [dif_pos (by omega)]; simp only [Result.andThen_ok]) | rw [if_pos (by omega)]); (try with_reducible rfl); done)); try simp only [Act.put, List.setIfInBounds_toArray, List.set_cons_zero, List.set_cons_succ])
  (refine tk6 (v := ?_) (by kernel_rfl) (by kernel_rfl) (by kernel_rfl) (fun _ _ _ h => h) (Or.inl ⟨by rfl, ?_⟩) (by assumption) ?_; rotate_left; (focus (intro w hSw; (try dsimp only at hSw); go_simp; (try first | (rw [dif_pos (by omega)]; simp only [Result.andThen_ok]) | rw [if_pos (by omega)]); (try with_reducible rfl); done)); try simp only [Act.put, List.setIfInBounds_toArray, List.set_cons_zero, List.set_cons_succ])
  (refine tk7 (v := ?_) (by kernel_rfl) (by kernel_rfl) (by kernel_rfl) (fun _ _ _ h => h) (Or.inl ⟨by rfl, ?_⟩) (by assumption) ?_; rotate_left; (focus (intro w hSw; (try dsimp only at hSw); go_simp; (try first | (rw [dif_pos (by omega)]; simp only [Result.andThen_ok]) | rw [if_pos (by omega)]); (try with_reducible rfl); done)); try simp only [Act.put, List.setIfInBounds_toArray, List.set_cons_zero, List.set_cons_succ])
  (refine tk8 (v := ?_) (by kernel_rfl) (by kernel_rfl) (by kernel_rfl) (fun _ _ _ h => h) (Or.inl ⟨by rfl, ?_⟩) (by assumption) ?_; rotate_left; (focus (intro w hSw; (try dsimp only at hSw); go_simp; (try first | (rw [dif_pos (by omega)]; simp only [Result.andThen_ok]) | rw [if_pos (by omega)]); (try with_reducible rfl); done)); try simp only [Act.put, List.setIfInBounds_toArray, List.set_cons_zero, List.set_cons_succ])
  (refine tk9 (v := ?_) (by kernel_rfl) (by kernel_rfl) (by kernel_rfl) (fun _ _ _ h => h) (Or.inl ⟨by rfl, ?_⟩) (by assumption) ?_; rotate_left; (focus (intro w hSw; (try dsimp only at hSw); go_simp; (try first | (rw [dif_pos (by omega)]; simp only [Result.andThen_ok]) | rw [if_pos (by omega)]); (try with_reducible rfl); done)); try simp only [Act.put, List.setIfInBounds_toArray, List.set_cons_zero, List.set_cons_succ])
  (refine wpAnyH_ready (rs := [10]) (by kernel_rfl) (by simp) ?_; refine ar10 (fun K hK => ?_) AllReadyH.nil; go_simp)
  refine (peek_ok A.L S (zoW w).drew 0 HZ.out.2.drew HS2.out.1 HS2.out.2.1 HS2.out.2.2.1 HS2.out.2.2.2.1).mono ?_
  rintro e w1 ⟨g, rfl, hp⟩
  obtain ⟨ob, cO, fO, lb1⟩ := Ob.start HA.out HF.out.1 HF.out.2 hp
  have HO : Hid (Ob w (w1.setCell ⟨w.heap.size + 1, 0, none⟩ (.slice (some ⟨g, 0, none⟩) 2 2)) A dn rg S bb gt ct g) := ob
  rw [HS2.out.2.2.2.2]
  clear hp ob HZ HF HS2
  (refine hK.out _ _ ⟨(cell?_heap lb1.be 0).trans rfl, (cell?_heap lb1.be 1).trans rfl⟩ (fun hHeld => ?_); clear hK K; try simp only [Act.put, List.setIfInBounds_toArray, List.set_cons_zero, List.set_cons_succ])
  clear lb1
  (refine tk11 (v := ?_) (by kernel_rfl) (by kernel_rfl) (by kernel_rfl) (fun _ _ _ h => h) (Or.inl ⟨by rfl, ?_⟩) (by assumption) ?_; rotate_left; (focus (intro w hSw; (try dsimp only at hSw); go_simp; (try first | (rw [dif_pos (by omega)]; simp only [Result.andThen_ok]) | rw [if_pos (by omega)]); (try with_reducible rfl); done)); try simp only [Act.put, List.setIfInBounds_toArray, List.set_cons_zero, List.set_cons_succ])
  (refine tk12 (v := ?_) (by kernel_rfl) (by kernel_rfl) (by kernel_rfl) (fun _ _ _ h => h) (Or.inl ⟨by rfl, ?_⟩) (by assumption) ?_; rotate_left; (focus (intro w hSw; (try dsimp only at hSw); go_simp; (try first | (rw [dif_pos (by omega)]; simp only [Result.andThen_ok]) | rw [if_pos (by omega)]); (try with_reducible rfl); done)); try simp only [Act.put, List.setIfInBounds_toArray, List.set_cons_zero, List.set_cons_succ])
  (refine tk13 (v := ?_) (by kernel_rfl) (by kernel_rfl) (by kernel_rfl) (fun _ _ _ h => h) (Or.inl ⟨by rfl, ?_⟩) (by assumption) ?_; rotate_left; (focus (intro w hSw; (try dsimp only at hSw); go_simp; (try first | (rw [dif_pos (by omega)]; simp only [Result.andThen_ok]) | rw [if_pos (by omega)]); (try with_reducible rfl); done)); try simp only [Act.put, List.setIfInBounds_toArray, List.set_cons_zero, List.set_cons_succ])
  (refine tk14 (v := ?_) (by kernel_rfl) (by kernel_rfl) (by kernel_rfl) (fun _ _ _ h => h) (Or.inl ⟨by rfl, ?_⟩) (by assumption) ?_; rotate_left; (focus (intro w hSw; (try dsimp only at hSw); go_simp; (try first | (rw [dif_pos (by omega)]; simp only [Result.andThen_ok]) | rw [if_pos (by omega)]); (try with_reducible rfl); done)); try simp only [Act.put, List.setIfInBounds_toArray, List.set_cons_zero, List.set_cons_succ])
  (refine wpAnyH_ready (rs := [15]) (by kernel_rfl) (by simp) ?_; refine ar15 (fun K hK => ?_) AllReadyH.nil; go_simp)
  have HC1 := HO.out.hl.be
  (refine hK.out _ _ ⟨(cell?_heap HC1 0).trans rfl, (cell?_heap HC1 1).trans rfl⟩ (fun hHeld => ?_); clear hK K; try simp only [Act.put, List.setIfInBounds_toArray, List.set_cons_zero, List.set_cons_succ])
  refine wpAnyH_done (by kernel_rfl) ?_ _
  have c2 := (cell?_heap HC1 2).trans rfl
  clear cO fO HC1
  generalize w1.setCell ⟨w.heap.size + 1, 0, none⟩ (.slice (some ⟨g, 0, none⟩) 2 2) = wb at *
  go_wp2_with fail
  clear c2
  go_loopw [30] (fun c wr => ∃ (t : Nat) (rv : Value), c = .int .i64 t ∧ t ≤ A.n ∧ Oc w wb wr rg g t rv) (fun c _ => A.n - (intOf c).toNat)
  case atStart => exact ⟨0, .slice none 0 0, rfl, by omega, Keeps.refl _ _, HO.out.ob, OwG.nil _ _ _ _ _⟩
  case round =>
    obtain ⟨t, rv, rfl, ht, hoc⟩ := hrel
    have HQ : Hid (Oc w wb wr rg g t rv) := hoc
    have hn4 : A.n ≤ 4 := HA.out.n4.2
    clear hoc
    by_cases h5 : t < A.n
    · have t0 : (0 : Int) ≤ (t : Int) := Int.natCast_nonneg _
      have t1 : (t : Int) < (A.n : Int) := by omega
      have cT : wr.cell? ⟨gt, t, none⟩ = some (.pointer (some ⟨A.T t, 0, none⟩)) := by
        have o := (HO.out.lb HA.out HQ.out.k).ot
        have : OwG thC 75 1 wr 0 (.slice (some ⟨gt, 0, none⟩) ((List.range A.n).map A.T).length ct) ((List.range A.n).map A.T) := by rw [List.length_map, List.length_range]; exact o
        rw [World.ownsRow.cellAt this t (by simpa using h5)]
        have := flat_get thC 1 (fun _ => rfl) ((List.range A.n).map A.T) t (by simpa using h5) 0 (by decide)
        rw [Nat.mul_one, Nat.add_zero] at this
        rw [this]
        simp [thC]
      have HT : Hid (Th wr.drew (A.T t) A.L (A.ib t) 1 (A.cap t) (rg t) (if dn t then 1 else 0)) := (HO.out.th' HA.out HQ.out.k t h5).keeps (Keeps.refl (fun _ => False) _).drew (fun e => e)
      obtain ⟨ra, rc, hrv⟩ := HQ.out.ow.form
      subst hrv
      have cR : wr.drew.cell? ⟨w.heap.size + 1, 1, none⟩ = some (.slice ra (regsL rg t).length rc) := (cell?_heap HQ.out.ob 1).trans rfl
      have hle : (regsL rg t).length ≤ 16 := by rw [regsL_len]; have := HA.out.n4; omega
      have HE : Hid (regsL rg t ++ [rg t 0, rg t 1, rg t 2, rg t 3] = regsL rg (t + 1)) := (regsL_succ rg t).symm
      have HW8 : Hid (OwG wdC 22 1 wr.drew wb.heap.size (.slice ra (regsL rg t).length rc) (regsL rg t)) := HQ.out.ow.later (Below.refl _ _).drew
      have HZ1 : Hid (w.heap.size + 1 < wb.heap.size) := by have := HO.out.gm; show _ < _; omega
      have HQ2 : Hid (Oc w wb wr.drew rg g t (.slice ra (regsL rg t).length rc)) := ⟨HQ.out.k.drew, HQ.out.ob, HW8.out⟩
      have hks : wb.heap.size ≤ wr.drew.heap.size := HQ.out.k.size
      clear HQ
      generalize regsL rg t = xs at *
      go_wp2_with fail
      clear cT
      (refine wp_region_held_drew (S := (fun _ => True)) (by kernel_rfl) trivial (fun hHeld => ?_); simp only [List.size_toArray, List.length_cons, List.length_nil, Nat.reduceAdd, Array.replicate_succ, Array.replicate_zero, List.push_toArray, List.append_toArray, List.nil_append, List.cons_append])
      (refine tk0 (v := ?_) (by kernel_rfl) (by kernel_rfl) (by kernel_rfl) (fun _ _ _ h => h) (Or.inl ⟨by rfl, ?_⟩) (by assumption) ?_; rotate_left; (focus (intro w hSw; (try dsimp only at hSw); go_simp; (try first | (rw [dif_pos (by omega)]; simp only [Result.andThen_ok]) | rw [if_pos (by omega)]); (try with_reducible rfl); done)); try simp only [Act.put, List.setIfInBounds_toArray, List.set_cons_zero, List.set_cons_succ])
      (refine tk2 (v := ?_) (by kernel_rfl) (by kernel_rfl) (by kernel_rfl) (fun _ _ _ h => h) (Or.inl ⟨by rfl, ?_⟩) (by assumption) ?_; rotate_left; (focus (intro w hSw; (try dsimp only at hSw); go_simp; (try first | (rw [dif_pos (by omega)]; simp only [Result.andThen_ok]) | rw [if_pos (by omega)]); (try with_reducible rfl); done)); try simp only [Act.put, List.setIfInBounds_toArray, List.set_cons_zero, List.set_cons_succ])
      (refine tk3 (v := ?_) (by kernel_rfl) (by kernel_rfl) (by kernel_rfl) (fun _ _ _ h => h) (Or.inl ⟨by rfl, ?_⟩) (by assumption) ?_; rotate_left; (focus (intro w hSw; (try dsimp only at hSw); go_simp; (try first | (rw [dif_pos (by omega)]; simp only [Result.andThen_ok]) | rw [if_pos (by omega)]); (try with_reducible rfl); done)); try simp only [Act.put, List.setIfInBounds_toArray, List.set_cons_zero, List.set_cons_succ])
      (refine tk4 (v := ?_) (by kernel_rfl) (by kernel_rfl) (by kernel_rfl) (fun _ _ _ h => h) (Or.inl ⟨by rfl, ?_⟩) (by assumption) ?_; rotate_left; (focus (intro w hSw; (try dsimp only at hSw); go_simp; (try first | (rw [dif_pos (by omega)]; simp only [Result.andThen_ok]) | rw [if_pos (by omega)]); (try with_reducible rfl); done)); try simp only [Act.put, List.setIfInBounds_toArray, List.set_cons_zero, List.set_cons_succ])
      (refine tk5 (v := ?_) (by kernel_rfl) (by kernel_rfl) (by kernel_rfl) (fun _ _ _ h => h) (Or.inl ⟨by rfl, ?_⟩) (by assumption) ?_; rotate_left; (focus (intro w hSw; (try dsimp only at hSw); go_simp; (try first | (rw [dif_pos (by omega)]; simp only [Result.andThen_ok]) | rw [if_pos (by omega)]); (try with_reducible rfl); done)); try simp only [Act.put, List.setIfInBounds_toArray, List.set_cons_zero, List.set_cons_succ])
      (refine wpAnyH_ready (rs := [1]) (by kernel_rfl) (by simp) ?_; refine ar1 (fun K hK => ?_) AllReadyH.nil; go_simp)
      (refine hK.out _ _ trivial (fun hHeld => ?_); clear hK K; try simp only [Act.put, List.setIfInBounds_toArray, List.set_cons_zero, List.set_cons_succ])
      clear cR
      (refine wpAnyH_ready (rs := [6]) (by kernel_rfl) (by simp) ?_; refine ar6 (fun K hK => ?_) AllReadyH.nil; rw [if_pos (by rfl)])
      refine app_more_wp (cs := wdC) (.tmp 35) (.tmp 39) 24 22 (by rfl) Tryz.underlying24 infoW8 rfl (by decide) (fun _ => rfl) wb.heap.size _ xs HW8.out (by rfl) _ ⟨A.T t, 3, none⟩ 4 4 [rg t 0, rg t 1, rg t 2, rg t 3] (by rfl) (regs_in HT.out) (fun y _ u hu => by simp [wdC] at hu; subst hu; rfl) (by unfold maxLen; simp; omega) (by simp; omega) hks ?_
      intro v' w5 ho hbl hkp
      rw [HE.out] at ho
      obtain ⟨va, vc, rfl⟩ := ho.form
      obtain ⟨oc5, cO5, fO5⟩ := HQ2.out.app hbl ho rfl HZ1.out
      obtain ⟨mm, hmm⟩ : ∃ mm, (regsL rg (t + 1)).length = mm := ⟨_, rfl⟩
      rw [hmm] at oc5 ⊢
      have H5 : Hid (Oc w wb (w5.setCell ⟨w.heap.size + 1, 1, none⟩ (.slice va mm vc)) rg g (t + 1) (.slice va mm vc)) := oc5
      clear hmm oc5 ho hbl hkp HQ2 HW8 HE HT
      (refine hK.out _ _ trivial (fun hHeld => ?_); clear hK K; try simp only [Act.put, List.setIfInBounds_toArray, List.set_cons_zero, List.set_cons_succ])
      (refine tk7 (v := ?_) (by kernel_rfl) (by kernel_rfl) (by kernel_rfl) (fun _ _ _ h => h) (Or.inl ⟨by rfl, ?_⟩) (by assumption) ?_; rotate_left; (focus (intro w hSw; (try dsimp only at hSw); go_simp; (try first | (rw [dif_pos (by omega)]; simp only [Result.andThen_ok]) | rw [if_pos (by omega)]); (try with_reducible rfl); done)); try simp only [Act.put, List.setIfInBounds_toArray, List.set_cons_zero, List.set_cons_succ])
      (refine wpAnyH_ready (rs := [8]) (by kernel_rfl) (by simp) ?_; refine ar8 (fun K hK => ?_) AllReadyH.nil; go_simp)
      (refine hK.out _ _ trivial (fun hHeld => ?_); clear hK K; try simp only [Act.put, List.setIfInBounds_toArray, List.set_cons_zero, List.set_cons_succ])
      refine wpAnyH_done (by kernel_rfl) ?_ _
      clear cO5 fO5
      go_wp2
      go_roundw
      case rel => exact ⟨t + 1, _, by go_num, by omega, H5.out⟩
      case measure => simp [intOf]; omega
    · have : t = A.n := by omega
      subst this
      obtain ⟨ra, rc, hrv⟩ := HQ.out.ow.form
      subst hrv
      have HB : Hid (Lb wr A bb (.slice (some ⟨gt, 0, none⟩) A.n ct)) := HO.out.lb HA.out HQ.out.k
      have HC3 := HB.out.be
      have HOb := HQ.out.ob
      have HR : wr.heap[w.heap.size]? = some (.cells #[.slice none 0 0, .slice none 0 0] 34) := (HQ.out.k.block _ (Array.getElem?_eq_some_iff.1 HO.out.rb).1 (by show ¬ w.heap.size = w.heap.size + 1; omega)).trans HO.out.rb
      have r0 := (cell?_heap HR 0).trans rfl
      have r1 := (cell?_heap HR 1).trans rfl
      have f0 := frozen?_heap HR 0
      have f1 := frozen?_heap HR 1
      obtain ⟨mm, hmm⟩ : ∃ mm, (regsL rg A.n).length = mm := ⟨_, rfl⟩
      rw [hmm] at HOb
      obtain ⟨st', ev', en', hr⟩ := HO.out.hr' HA.out HQ.out.k
      have HH : Hid (Hr wr.drew A.hb A.qb A.n A.pb (fun i => if dn i then 0 else 1) A.cp st' ev' en') := hr.drew
      clear hr
      go_wp2_with fail
      (refine wp_region_held_drew (S := (fun W => W.cell? ⟨bb, 3, none⟩ = some (.pointer (some ⟨A.hb, 0, none⟩)) ∧ W.cell? ⟨w.heap.size + 1, 0, none⟩ = some (.slice (some ⟨g, 0, none⟩) 2 2) ∧ W.cell? ⟨w.heap.size + 1, 1, none⟩ = some (.slice ra mm rc))) (by kernel_rfl) ⟨(cell?_heap HC3 3).trans rfl, (cell?_heap HOb 0).trans rfl, (cell?_heap HOb 1).trans rfl⟩ (fun hHeld => ?_); simp only [List.size_toArray, List.length_cons, List.length_nil, Nat.reduceAdd, Array.replicate_succ, Array.replicate_zero, List.push_toArray, List.append_toArray, List.nil_append, List.cons_append])
      (refine tk0 (v := ?_) (by kernel_rfl) (by kernel_rfl) (by kernel_rfl) (fun _ _ _ h => h) (Or.inl ⟨by rfl, ?_⟩) (by assumption) ?_; rotate_left; (focus (intro w hSw; (try dsimp only at hSw); go_simp; (try first | (rw [dif_pos (by omega)]; simp only [Result.andThen_ok]) | rw [if_pos (by omega)]); (try with_reducible rfl); done)); try simp only [Act.put, List.setIfInBounds_toArray, List.set_cons_zero, List.set_cons_succ])
      (refine tk1 (v := ?_) (by kernel_rfl) (by kernel_rfl) (by kernel_rfl) (fun _ _ _ h => h) (Or.inl ⟨by rfl, ?_⟩) (by assumption) ?_; rotate_left; (focus (intro w hSw; (try dsimp only at hSw); go_simp; (try first | (rw [dif_pos (by omega)]; simp only [Result.andThen_ok]) | rw [if_pos (by omega)]); (try with_reducible rfl); done)); try simp only [Act.put, List.setIfInBounds_toArray, List.set_cons_zero, List.set_cons_succ])
      (refine tk2 (v := ?_) (by kernel_rfl) (by kernel_rfl) (by kernel_rfl) (fun _ _ _ h => h) (Or.inl ⟨by rfl, ?_⟩) (by assumption) ?_; rotate_left; (focus (intro w hSw; (try dsimp only at hSw); go_simp; (try first | (rw [dif_pos (by omega)]; simp only [Result.andThen_ok]) | rw [if_pos (by omega)]); (try with_reducible rfl); done)); try simp only [Act.put, List.setIfInBounds_toArray, List.set_cons_zero, List.set_cons_succ])
      (refine tk3 (v := ?_) (by kernel_rfl) (by kernel_rfl) (by kernel_rfl) (fun _ _ _ h => h) (Or.inl ⟨by rfl, ?_⟩) (by assumption) ?_; rotate_left; (focus (intro w hSw; (try dsimp only at hSw); go_simp; (try first | (rw [dif_pos (by omega)]; simp only [Result.andThen_ok]) | rw [if_pos (by omega)]); (try with_reducible rfl); done)); try simp only [Act.put, List.setIfInBounds_toArray, List.set_cons_zero, List.set_cons_succ])
      (refine tk4 (v := ?_) (by kernel_rfl) (by kernel_rfl) (by kernel_rfl) (fun _ _ _ h => h) (Or.inl ⟨by rfl, ?_⟩) (by assumption) ?_; rotate_left; (focus (intro w hSw; (try dsimp only at hSw); go_simp; (try first | (rw [dif_pos (by omega)]; simp only [Result.andThen_ok]) | rw [if_pos (by omega)]); (try with_reducible rfl); done)); try simp only [Act.put, List.setIfInBounds_toArray, List.set_cons_zero, List.set_cons_succ])
      (refine wpAnyH_ready (rs := [5]) (by kernel_rfl) (by simp) ?_; refine ar5 (fun K hK => ?_) AllReadyH.nil; go_simp)
      refine (idle_any wr.drew A HA.out.n4.2 dn st' ev' en' HH.out).mono ?_
      rintro e w6 ⟨rfl, b, rfl, -⟩
      (refine hK.out _ _ ⟨(cell?_heap HC3 3).trans rfl, (cell?_heap HOb 0).trans rfl, (cell?_heap HOb 1).trans rfl⟩ (fun hHeld => ?_); clear hK K; try simp only [Act.put, List.setIfInBounds_toArray, List.set_cons_zero, List.set_cons_succ])
      have r0' : wr.drew.cell? ⟨w.heap.size, 0, none⟩ = some (.slice none 0 0) := r0
      have r1' : wr.drew.cell? ⟨w.heap.size, 1, none⟩ = some (.slice none 0 0) := r1
      (refine wpAnyH_ready (rs := [6]) (by kernel_rfl) (by simp) ?_; refine ar6 (fun K hK => ?_) AllReadyH.nil; go_simp)
      obtain ⟨z1, z2, z3, z4, z5, z6, z7⟩ := Oc.last HO.out HQ.out HA.out
      rw [hmm] at z1 z2 z3 z4 z5 z6 z7
      have HX : Hid (OwG wdC 22 1 _ w.heap.size (.slice ra mm rc) (regsL rg A.n) ∧ _ ∧ _ ∧ _) := ⟨z4, z2, z3, z5⟩
      (refine hK.out _ _ ⟨(cell?_heap z7.be 3).trans rfl, (cell?_heap z6 0).trans rfl, (cell?_heap z6 1).trans rfl⟩ (fun hHeld => ?_); clear hK K; try simp only [Act.put, List.setIfInBounds_toArray, List.set_cons_zero, List.set_cons_succ])
      (refine tk7 (v := ?_) (by kernel_rfl) (by kernel_rfl) (by kernel_rfl) (fun _ _ _ h => h) (Or.inl ⟨by rfl, ?_⟩) (by assumption) ?_; rotate_left; (focus (intro w hSw; (try dsimp only at hSw); go_simp; (try first | (rw [dif_pos (by omega)]; simp only [Result.andThen_ok]) | rw [if_pos (by omega)]); (try with_reducible rfl); done)); try simp only [Act.put, List.setIfInBounds_toArray, List.set_cons_zero, List.set_cons_succ])
      refine wpAnyH_done (by kernel_rfl) ?_ _
      go_wp2
      exact bodyPost_ret (results_row_tmp (p := 2) (ty := 34) (q := 3) rfl _ _ w.heap.size 34 _ (0, 0) _ rfl z1 Tryz.underlying34 rfl (by kernel_rfl)) rfl ⟨S, rg, b, g, _, rfl, HW.out, HX.out.2.1, HX.out.2.2.1, HX.out.1, HX.out.2.2.2, by have := HO.out.gm; omega⟩
end Go.Proofs.YtegnmflbbpfdhaaGreat
