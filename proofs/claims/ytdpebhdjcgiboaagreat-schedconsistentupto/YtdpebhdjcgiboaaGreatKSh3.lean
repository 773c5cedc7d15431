import Derived.Test.YtdpebhdjcgiboaaGreatKSg9
namespace Go.Proofs.YtdpebhdjcgiboaaGreat
set_option linter.unusedSimpArgs false
open Go.ChangeShapes Go.WideShapes Go.ChangeAt Go.RowKit Go.MuLone Go.RwLone
set_option linter.unusedVariables false
set_option maxRecDepth 100000
set_option maxHeartbeats 3200000
def slP {β : Type} (a : Value × β) : List Value := [a.1]
theorem infoSlI : (Tryz.prog.info? 102).map (fun i => (i.zero, i.size, i.bytes)) = some (some (.slice none 0 0), 1, 24) := by kernel_rfl
theorem infoU64 : (Tryz.prog.info? 55).map (fun i => (i.zero, i.size, i.bytes)) = some (some (.int .u64 0), 1, 8) := by kernel_rfl
/-- A list in sight, nil or not, behind a row of one's own, in a drawn region. -/
theorem app_in_wp {α : Type} {cs : α → List Value} {w : World} {o : Oper} {a : Act} {K : Act → World → Prop} {Q : Exit → Act → World → Prop} (s x : Operand) (t e : TypeId)
    (ho : o.op = .call { callee := .builtin .append, args := #[s, x], argTypes := #[t, t] })
    {z : Value} {n bytes : Nat} (hu : Tryz.prog.underlying t = some (.slice e)) (hinfo : (Tryz.prog.info? e).map (fun i => (i.zero, i.size, i.bytes)) = some (some z, n, bytes)) (hzs : z.cells.size = n) (hn0 : 0 < n) (hn : ∀ y, (cs y).length = n)
    (B : Nat) (v : Value) (xs : List α) (hown : OwG cs e n w B v xs) (hs : a.eval s = v) (C : Nat) (v2 : Value) (ys : List α) (hx : a.eval x = v2) (hin : InG cs w C v2 ys) (h1 : ∀ y ∈ ys, ∀ u ∈ cs y, u.oneCell' = true)
    (hm : xs.length + ys.length ≤ maxLen) (hbytes : (xs.length + ys.length) * bytes ≤ 140737488355328) (hB : B ≤ w.heap.size)
    (h : ∀ v' w', OwG cs e n w' B v' (xs ++ ys) → Below B w w' → KpT e w w' → K (a.put o.dst v') w') :
    o.wp Tryz.prog a w K Q := by
  obtain ⟨i0, hi, hz0, hz1, hz2⟩ := info_parts hinfo
  have hin2 := hin
  obtain ⟨ao, cap, rfl, hlc, hno, hc⟩ := hin
  match ao, hno, hc with
  | none, hno, hc =>
    have hc0 := hno rfl
    have hv : ys.length = 0 := by omega
    have hv' : ys = [] := List.eq_nil_of_length_eq_zero hv
    subst hv' hc0
    have hrun := run_append_owned_none (P := Tryz.prog) (w := w) B t o.type e i0 n hu hi v xs.length _ hown
    have hk := h v w (by rw [List.append_nil]; exact hown) (Below.refl _ _) (fun _ _ _ _ _ _ => rfl)
    unfold Oper.wp
    simp only [List.length_nil] at hx
    simp [execOp, ho, resolve, invoke, builtin, hs, hx, hrun, Result.andThen]
    exact hk
  | some ad, hno, hc =>
    exact app_more_wp s x t e ho hu hinfo hzs hn0 hn B v xs hown hs C ad ys.length cap ys hx hin2 h1 hm hbytes hB h
/-- A copy in memory of its own. -/
theorem copy_wp {α : Type} {cs : α → List Value} {w : World} {o : Oper} {a : Act} {K : Act → World → Prop} {Q : Exit → Act → World → Prop} (s x : Operand) (t e : TypeId)
    (ho : o.op = .call { callee := .builtin .append, args := #[s, x], argTypes := #[t, t] })
    {z : Value} {n bytes : Nat} (hu : Tryz.prog.underlying t = some (.slice e)) (hinfo : (Tryz.prog.info? e).map (fun i => (i.zero, i.size, i.bytes)) = some (some z, n, bytes)) (hzs : z.cells.size = n) (hn0 : 0 < n) (hn : ∀ y, (cs y).length = n)
    (g : Nat) (hg : g = w.heap.size) (hs : a.eval s = .slice (some ⟨g, 0, none⟩) 0 0) (C : Nat) (v2 : Value) (ys : List α) (hx : a.eval x = v2) (hin : InG cs w C v2 ys) (hC : C ≤ w.heap.size) (h1 : ∀ y ∈ ys, ∀ u ∈ cs y, u.oneCell' = true)
    (hm : ys.length ≤ maxLen) (hbytes : ys.length * bytes ≤ 140737488355328)
    (h : ∀ v' w', OwG cs e n w' w.heap.size v' ys → Below w.heap.size w w' → K (a.put o.dst v') w') :
    o.wp Tryz.prog a (w.alloc (.cells #[] e)) K Q := by
  subst hg
  have b0 : Below w.heap.size w (w.alloc (.cells #[] e)) := (Below.refl _ _).alloc (Nat.le_refl _) _
  exact app_in_wp s x t e ho hu hinfo hzs hn0 hn w.heap.size _ [] (OwG.made cs e n w w.heap.size (Nat.le_refl _)) hs C v2 ys hx (hin.later (b0.mono hC)) h1 (by simpa using hm) (by simpa using hbytes) (by rw [szAl]; omega) (fun v' w' h1 h2 _ => h v' w' h1 (b0.trans h2))
theorem copy_list {α : Type} {cs : α → List Value} {w : World} {ops : Array Oper} {rest : List Oper} {o : Oper} {a : Act} {Q : Exit → Act → World → Prop} (hgd : o.guard = none) (s x : Operand) (t e : TypeId)
    (ho : o.op = .call { callee := .builtin .append, args := #[s, x], argTypes := #[t, t] })
    {z : Value} {n bytes : Nat} (hu : Tryz.prog.underlying t = some (.slice e)) (hinfo : (Tryz.prog.info? e).map (fun i => (i.zero, i.size, i.bytes)) = some (some z, n, bytes)) (hzs : z.cells.size = n) (hn0 : 0 < n) (hn : ∀ y, (cs y).length = n)
    (g : Nat) (hg : g = w.heap.size) (hs : a.eval s = .slice (some ⟨g, 0, none⟩) 0 0) (C : Nat) (v2 : Value) (ys : List α) (hx : a.eval x = v2) (hin : InG cs w C v2 ys) (hC : C ≤ w.heap.size) (h1 : ∀ y ∈ ys, ∀ u ∈ cs y, u.oneCell' = true)
    (hm : ys.length ≤ maxLen) (hbytes : ys.length * bytes ≤ 140737488355328)
    (h : ∀ v' w', OwG cs e n w' w.heap.size v' ys → Below w.heap.size w w' → wpList Tryz.prog ops Q rest (a.put o.dst v') w') :
    wpList Tryz.prog ops Q (o :: rest) a (w.alloc (.cells #[] e)) :=
  wpList_plain hgd fun _ hK => copy_wp s x t e ho hu hinfo hzs hn0 hn g hg hs C v2 ys hx hin hC h1 hm hbytes (fun v' w' p1 p2 => hK _ _ (h v' w' p1 p2))
theorem wdC_one (x : Int) : ∀ u ∈ wdC x, u.oneCell' = true := by
  intro u hu
  simp [wdC] at hu
  subst hu
  rfl
/-- A litmus program in sight, told by pairs. -/
theorem InG.at1 {β : Type} {w : World} {C : Nat} {a : Option Addr} {n c : Nat} {ps : List (Value × β)} (h : InG slP w C (.slice a n c) ps) (i : Nat) (hi : i < ps.length) : ∃ tb off, a = some ⟨tb, off, none⟩ ∧ tb < C ∧ w.cell? ⟨tb, off + i, none⟩ = some ps[i].1 := by
  obtain ⟨b, off, e, hl, hc⟩ := InG.cell (cs := slP) (n := 1) (fun _ => rfl) h i hi (by decide)
  have := hc 0 (by decide)
  rw [Nat.mul_one, Nat.add_zero] at this
  exact ⟨b, off, e, hl, this⟩
theorem LitG.of {w : World} {C : Nat} {ca : Option Addr} {cc : Nat} {ta : Option Addr} {n tc : Nat} {cs : List Int} {ts : List (List I8)} (ps : List (Value × List I8)) (hc : InG wdC w C (.slice ca cs.length cc) cs) (ht : InG slP w C (.slice ta n tc) ps) (hi : ∀ p ∈ ps, InG iC w C p.1 p.2) (hts : ps.map Prod.snd = ts) (l1 : cs.length ≤ 140737488355328) (l2 : ts.length ≤ 140737488355328) (l3 : ∀ i (hi : i < ts.length), ts[i].length ≤ 140737488355328) :
    ∃ tv, LitG w C ca cc ta tc tv cs ts := by
  subst hts
  refine ⟨fun i => ((ps[i]?).map Prod.fst).getD undef, hc, fun i hi' => ?_, fun i hi' => ?_, l1, l2, l3⟩
  · have h1 : i < ps.length := by simpa using hi'
    obtain ⟨tb, off, e, hl, hc⟩ := ht.at1 i h1
    refine ⟨tb, off, e, hl, ?_⟩
    rw [hc]
    simp [List.getElem?_eq_getElem h1]
  · have h1 : i < ps.length := by simpa using hi'
    have := hi ps[i] (List.getElem_mem h1)
    simpa [List.getElem?_eq_getElem h1] using this
abbrev cpW (w : World) (c : Array Value) : World := (lgW w c).alloc (.cells #[.slice none 0 0, .slice none 0 0] 49)
/-- In the midst of copying a program. -/
structure Cp (w wr : World) (c : Array Value) (cb : Nat) (cv tvv : Value) (cs : List Int) (ps : List (Value × List I8)) : Prop where
  lb : wr.heap[cb]? = some (.cells #[cv, tvv] 49)
  oc : OwW wr (w.heap.size + 2) cv cs
  ot : OwG slP 102 1 wr (w.heap.size + 2) tvv ps
  oi : ∀ p ∈ ps, OwG iC 106 8 wr (w.heap.size + 2) p.1 p.2
  bl : Below (w.heap.size + 2) (cpW w c) wr
  cl : w.heap.size + 2 ≤ cb
theorem cpW_size (w : World) (c : Array Value) : (cpW w c).heap.size = w.heap.size + 2 := by rw [szAl, szAl]
theorem Cp.ne {w wr : World} {c : Array Value} {cb : Nat} {cv tvv : Value} {cs : List Int} {ps : List (Value × List I8)} (h : Cp w wr c cb cv tvv cs ps) : cb < wr.heap.size := (Array.getElem?_eq_some_iff.1 h.lb).1
theorem Cp.step {w wr w8 w3 : World} {c : Array Value} {cb : Nat} {cv tvv v8 v' : Value} {cs : List Int} {ps : List (Value × List I8)} {l : List I8} (h : Cp w wr c cb cv tvv cs ps) (h8 : OwG iC 106 8 w8 wr.heap.size v8 l) (b8 : Below wr.heap.size wr w8) (ho : OwG slP 102 1 w3 (w.heap.size + 2) v' (ps ++ [(v8, l)])) (hb : Below (w.heap.size + 2) w8 w3) (hk : KpT 102 w8 w3) :
    Cp w (w3.setCell ⟨cb, 1, none⟩ v') c cb cv v' cs (ps ++ [(v8, l)]) ∧ w3.cell? ⟨cb, 1, none⟩ = some tvv ∧ w3.frozen? ⟨cb, 1, none⟩ = false := by
  have e8 : w8.heap[cb]? = some (.cells #[cv, tvv] 49) := (b8.block cb h.ne).trans h.lb
  have e3 : w3.heap[cb]? = some (.cells #[cv, tvv] 49) := (hk _ _ _ _ e8 (by decide)).trans e8
  have hs : w.heap.size + 2 ≤ wr.heap.size := by have := h.cl; have := h.ne; omega
  have ks : Keeps (fun x => x = cb) w3 (w3.setCell ⟨cb, 1, none⟩ v') := Keeps.setCell (B := fun x => x = cb) (Keeps.refl _ _) rfl _
  have ap : ∀ {α : Type} {cs : α → List Value} {e : TypeId} {n B : Nat} {v : Value} {xs : List α}, OwG cs e n w3 B v xs → e ≠ 49 → OwG cs e n (w3.setCell ⟨cb, 1, none⟩ v') B v xs := fun ho hne => owK ho ks (fun g hg e => by
    obtain ⟨cur, hcur⟩ := blk ho hg
    exact neT hcur e3 hne e)
  refine ⟨⟨heapSet e3 _, ap ((h.oc.later b8).kept hk (by decide)) (by decide), ap ho (by decide), fun p hp => ?_, ?_, h.cl⟩, (cell?_heap e3 1).trans rfl, frozen?_heap e3 1⟩
  · rcases List.mem_append.1 hp with hp | hp
    · exact ap (((h.oi p hp).later b8).kept hk (by decide)) (by decide)
    · obtain rfl := List.mem_singleton.1 hp
      exact ap ((h8.kept hk (by decide)).down hs) (by decide)
  · refine (h.bl.trans ((b8.mono hs).trans hb)).trans ?_
    exact ks.below (by have := hb.size; have := b8.size; omega) (fun k hk e => by have := h.cl; omega)
theorem copyLit (w : World) (C : Nat) (ca : Option Addr) (cc : Nat) (ta : Option Addr) (tc : Nat) (tv : Nat → Value) (cs : List Int) (ts : List (List I8)) (h : LitG w C ca cc ta tc tv cs ts) (hC : C ≤ w.heap.size) (l1 : cs.length ≤ 1099511627776) (l2 : ts.length ≤ 1099511627776) (l3 : ∀ i (hi : i < ts.length), ts[i].length ≤ 1099511627776) :
    Calls Tryz.prog 31 #[.agg (litC ca cs.length cc ta ts.length tc)] w fun e w' => ∃ ca' cc' ta' tc' tv', e = .returned (.agg (litC ca' cs.length cc' ta' ts.length tc')) ∧ LitG w' w'.heap.size ca' cc' ta' tc' tv' cs ts ∧ Below w.heap.size w w' := by
  have k0 : Below w.heap.size w (cpW w (litC ca cs.length cc ta ts.length tc)) := ((Below.refl _ _).alloc (Nat.le_refl _) _).alloc (by rw [szAl]; omega) _
  have sz := cpW_size w (litC ca cs.length cc ta ts.length tc)
  have H : Hid (∀ W, Below (w.heap.size + 2) (cpW w (litC ca cs.length cc ta ts.length tc)) W → LitG W C ca cc ta tc tv cs ts) := fun W k => h.later ((k0.mono hC).trans (k.mono (by omega)))
  have HBox : Hid (∀ W, Below (w.heap.size + 2) (cpW w (litC ca cs.length cc ta ts.length tc)) W → W.cell? ⟨w.heap.size, 1, none⟩ = some (.slice ta ts.length tc) ∧ W.heap[w.heap.size + 1]? = some (.cells #[.slice none 0 0, .slice none 0 0] 49)) := fun W k => by
    have e0 : W.heap[w.heap.size]? = some (.cells (litC ca cs.length cc ta ts.length tc) 49) := (k.block _ (by omega)).trans ((Below.heap_alloc _ _ _ (by rw [szAl]; omega)).trans (heap_alloc_last _ _ _ rfl))
    exact ⟨(cell?_heap e0 1).trans rfl, (k.block _ (by omega)).trans (heap_alloc_last _ _ _ (szAl _ _).symm)⟩
  have HC0 : Hid (InG wdC (cpW w (litC ca cs.length cc ta ts.length tc)) C (.slice ca cs.length cc) cs ∧ C ≤ (cpW w (litC ca cs.length cc ta ts.length tc)).heap.size) := ⟨(H.out _ (Below.refl _ _)).c, by omega⟩
  have HK0 : Hid (Below w.heap.size w (cpW w (litC ca cs.length cc ta ts.length tc))) := k0
  have HL3 : Hid (∀ i (hi : i < ts.length), ts[i].length ≤ 1099511627776) := l3
  clear h k0 l3
  go_enter Tryz.func31, Tryz.ntmps31
  go_wp2_with (at_builtin; refine hideG ?_)
  change wpList _ _ _ _ _ _
  refine copy_list (cs := wdC) (w := cpW w (litC ca cs.length cc ta ts.length tc)) (by rfl) _ _ 46 55 (by rfl) Tryz.underlying46 infoU64 rfl (by decide) (fun _ => rfl) (w.heap.size + 2) sz.symm (by rfl) C _ cs (by rfl) HC0.out.1 HC0.out.2 (fun y _ => wdC_one y) (by unfold maxLen; omega) (by omega) ?_
  intro v' w' ho hb
  rw [sz] at ho hb
  obtain ⟨va, vc, rfl⟩ := ho.form
  have HS : Hid (Cp w (w'.alloc (.cells #[.slice va cs.length vc, .slice none 0 0] 49)) (litC ca cs.length cc ta ts.length tc) w'.heap.size (.slice va cs.length vc) (.slice none 0 0) cs []) := ⟨heap_alloc_last _ _ _ rfl, World.ownsRow.alloc ho _, OwG.nil _ _ _ _ _, (fun p hp => by cases hp), hb.alloc (by have := hb.size; omega) _, by have := hb.size; omega⟩
  clear ho hb HC0
  go_wp2_with fail
  generalize w'.alloc (.cells #[.slice va cs.length vc, .slice none 0 0] 49) = w1 at *
  generalize w'.heap.size = cb at *
  go_loopw [4] (fun c wr => ∃ (t : Nat) (tvv : Value) (ps : List (Value × List I8)), c = .int .i64 t ∧ t ≤ ts.length ∧ ps.map Prod.snd = ts.take t ∧ Cp w wr (litC ca cs.length cc ta ts.length tc) cb (.slice va cs.length vc) tvv cs ps) (fun c _ => ts.length - (intOf c).toNat)
  case atStart => exact ⟨0, _, [], rfl, by omega, rfl, HS.out⟩
  case round =>
    obtain ⟨t, tvv, ps, rfl, ht, hps, hcp⟩ := hrel
    have HQ : Hid (Cp w wr (litC ca cs.length cc ta ts.length tc) cb (.slice va cs.length vc) tvv cs ps ∧ ps.map Prod.snd = ts.take t) := ⟨hcp, hps⟩
    have HPL : Hid (ps.length = t) := by show _ = _; have := congrArg List.length hps; simpa [Nat.min_eq_left ht] using this
    have hpl : ps.length ≤ 1099511627776 := by have := HPL.out; omega
    clear hcp hps HS
    obtain ⟨c1, -⟩ := HBox.out wr HQ.out.1.bl
    by_cases h5 : t < ts.length
    · have t0 : (0 : Int) ≤ (t : Int) := Int.natCast_nonneg _
      have t1 : (t : Int) < (ts.length : Int) := by omega
      have lg := H.out wr HQ.out.1.bl
      obtain ⟨tb, off, rfl, htb, ct⟩ := lg.t t h5
      have hin := lg.i t h5
      obtain ⟨ia, icap, hiv⟩ := hin.form
      rw [hiv] at ct hin
      have hli := HL3.out t h5
      have HT : Hid (ts.take (t + 1) = ts.take t ++ [ts[t]]) := by show _ = _; rw [List.take_succ_eq_append_getElem h5]
      generalize ts[t] = l at *
      obtain ⟨va2, vc2, rfl⟩ := HQ.out.1.ot.form
      have hsz : w.heap.size + 2 ≤ wr.heap.size := by have := HQ.out.1.cl; have := HQ.out.1.ne; omega
      have HI : Hid (InG iC wr.drew C (.slice ia l.length icap) l ∧ C ≤ wr.drew.heap.size) := ⟨hin.later (Below.refl _ _).drew, by show C ≤ wr.heap.size; omega⟩
      have cT : wr.drew.cell? ⟨cb, 1, none⟩ = some (.slice va2 ps.length vc2) := (cell?_heap HQ.out.1.lb 1).trans rfl
      have cT2 : (wr.alloc (.cells #[] 106)).cell? ⟨cb, 1, none⟩ = some (.slice va2 ps.length vc2) := (World.cell?_of_block (w := wr) (Below.heap_alloc wr _ cb HQ.out.1.ne)).trans cT
      have HSS : Hid (∀ W : World, Below wr.heap.size wr W → W.cell? ⟨w.heap.size, 1, none⟩ = some (.slice (some ⟨tb, off, none⟩) ts.length tc) ∧ W.cell? ⟨tb, off + t, none⟩ = some (.slice ia l.length icap)) := fun W k => ⟨(k.cell (p := ⟨w.heap.size, 1, none⟩) (by show w.heap.size < _; omega)).trans c1, (k.cell (p := ⟨tb, off + t, none⟩) (by show tb < _; omega)).trans ct⟩
      have hd0 : Below wr.heap.size wr wr.drew := (Below.refl _ _).drew
      have hd1 : Below wr.heap.size wr (wr.drew.alloc (.cells #[] 106)) := hd0.alloc (Nat.le_refl _) _
      have HD : Hid (Below wr.heap.size wr wr.drew ∧ Below wr.heap.size wr (wr.drew.alloc (.cells #[] 106))) := ⟨hd0, hd1⟩
      clear hd0 hd1 hin hiv lg
      go_wp2_with fail
      (refine wp_region_held_drew (S := (fun W => W.cell? ⟨w.heap.size, 1, none⟩ = some (.slice (some ⟨tb, off, none⟩) ts.length tc) ∧ W.cell? ⟨tb, off + t, none⟩ = some (.slice ia l.length icap))) (by kernel_rfl) (HSS.out _ HD.out.1) (fun hHeld => ?_); simp only [List.size_toArray, List.length_cons, List.length_nil, Nat.reduceAdd, Array.replicate_succ, Array.replicate_zero, List.push_toArray, List.append_toArray, List.nil_append, List.cons_append])
      clear c1 ct
      refine rgT 0 (h := ?_)
      refine rgT 3 (h := ?_)
      refine rgT 4 (h := ?_)
      refine rgT 5 (h := ?_)
      refine rgT 6 (h := ?_)
      refine rgT 7 (h := ?_)
      (refine wpAnyH_ready (rs := [1, 2]) (by kernel_rfl) (by simp) ?_; refine rgA 1 (by rfl) (fun K hK => ?_) (rgA 2 (by rfl) (fun K hK => ?_) AllReadyH.nil) <;> go_simp)
      focus
        (refine hK.out _ _ (HSS.out _ HD.out.1) (fun hHeld => ?_); clear hK K; try simp only [Act.put, List.setIfInBounds_toArray, List.set_cons_zero, List.set_cons_succ])
        (refine rgS 2 (h := fun K hK => ?_); go_simp)
        (refine hK.out _ _ (HSS.out _ HD.out.2) (fun hHeld => ?_); clear hK K; try simp only [Act.put, List.setIfInBounds_toArray, List.set_cons_zero, List.set_cons_succ])
        (refine rgS 8 (h := fun K hK => ?_); rw [if_pos (by rfl)])
        refine copy_wp (cs := iC) (w := wr.drew) (.tmp 19) (.tmp 24) 102 106 (by rfl) Tryz.underlying102 infoIn rfl (by decide) (fun _ => rfl) wr.heap.size rfl (by rfl) C _ l (by rfl) HI.out.1 HI.out.2 (fun y _ => iC_one y) (by unfold maxLen; omega) (by omega) ?_
        intro v8 w8 o8 b8
        obtain ⟨a8, c8, rfl⟩ := o8.form
        have B8 : Below wr.heap.size wr w8 := HD.out.1.trans b8
        have cT8 : w8.cell? ⟨cb, 1, none⟩ = some (.slice va2 ps.length vc2) := (B8.cell (p := ⟨cb, 1, none⟩) HQ.out.1.ne).trans cT
        have cT9 : (w8.alloc (.cells #[.slice a8 l.length c8] 102)).cell? ⟨cb, 1, none⟩ = some (.slice va2 ps.length vc2) := (World.cell?_of_block (w := w8) (Below.heap_alloc w8 _ cb (by have := HQ.out.1.ne; have := B8.size; omega))).trans cT8
        have B9 : Below wr.heap.size wr (w8.alloc (.cells #[.slice a8 l.length c8] 102)) := B8.alloc B8.size _
        have H8 : Hid (OwG iC 106 8 w8 wr.heap.size (.slice a8 l.length c8) l ∧ Below wr.heap.size wr w8) := ⟨o8, B8⟩
        clear o8 b8
        (refine hK.out _ _ (HSS.out _ H8.out.2) (fun hHeld => ?_); clear hK K; try simp only [Act.put, List.setIfInBounds_toArray, List.set_cons_zero, List.set_cons_succ])
        clear B8
        (refine rgS 9 (h := fun K hK => ?_); go_simp)
        (refine hK.out _ _ (HSS.out _ B9) (fun hHeld => ?_); clear hK K; try simp only [Act.put, List.setIfInBounds_toArray, List.set_cons_zero, List.set_cons_succ])
      rotate_left 1
      focus
        (refine hK.out _ _ (HSS.out _ HD.out.2) (fun hHeld => ?_); clear hK K; try simp only [Act.put, List.setIfInBounds_toArray, List.set_cons_zero, List.set_cons_succ])
        (refine wpAnyH_ready (rs := [1, 8]) (by kernel_rfl) (by simp) ?_; refine rgA 1 (by rfl) (fun K hK => ?_) (rgA 8 (by rfl) (fun K hK => ?_) AllReadyH.nil) <;> rw [if_pos (by rfl)])
        focus
          go_simp
          (refine hK.out _ _ (HSS.out _ HD.out.2) (fun hHeld => ?_); clear hK K; try simp only [Act.put, List.setIfInBounds_toArray, List.set_cons_zero, List.set_cons_succ])
          (refine rgS 8 (h := fun K hK => ?_); rw [if_pos (by rfl)])
          refine copy_wp (cs := iC) (w := wr.drew) (.tmp 19) (.tmp 24) 102 106 (by rfl) Tryz.underlying102 infoIn rfl (by decide) (fun _ => rfl) wr.heap.size rfl (by rfl) C _ l (by rfl) HI.out.1 HI.out.2 (fun y _ => iC_one y) (by unfold maxLen; omega) (by omega) ?_
          intro v8 w8 o8 b8
          obtain ⟨a8, c8, rfl⟩ := o8.form
          have B8 : Below wr.heap.size wr w8 := HD.out.1.trans b8
          have cT8 : w8.cell? ⟨cb, 1, none⟩ = some (.slice va2 ps.length vc2) := (B8.cell (p := ⟨cb, 1, none⟩) HQ.out.1.ne).trans cT
          have cT9 : (w8.alloc (.cells #[.slice a8 l.length c8] 102)).cell? ⟨cb, 1, none⟩ = some (.slice va2 ps.length vc2) := (World.cell?_of_block (w := w8) (Below.heap_alloc w8 _ cb (by have := HQ.out.1.ne; have := B8.size; omega))).trans cT8
          have B9 : Below wr.heap.size wr (w8.alloc (.cells #[.slice a8 l.length c8] 102)) := B8.alloc B8.size _
          have H8 : Hid (OwG iC 106 8 w8 wr.heap.size (.slice a8 l.length c8) l ∧ Below wr.heap.size wr w8) := ⟨o8, B8⟩
          clear o8 b8
          (refine hK.out _ _ (HSS.out _ H8.out.2) (fun hHeld => ?_); clear hK K; try simp only [Act.put, List.setIfInBounds_toArray, List.set_cons_zero, List.set_cons_succ])
          clear B8
          (refine rgS 9 (h := fun K hK => ?_); go_simp)
          (refine hK.out _ _ (HSS.out _ B9) (fun hHeld => ?_); clear hK K; try simp only [Act.put, List.setIfInBounds_toArray, List.set_cons_zero, List.set_cons_succ])
        rotate_left 1
        focus
          refine copy_wp (cs := iC) (w := wr.drew) (.tmp 19) (.tmp 24) 102 106 (by rfl) Tryz.underlying102 infoIn rfl (by decide) (fun _ => rfl) wr.heap.size rfl (by rfl) C _ l (by rfl) HI.out.1 HI.out.2 (fun y _ => iC_one y) (by unfold maxLen; omega) (by omega) ?_
          intro v8 w8 o8 b8
          obtain ⟨a8, c8, rfl⟩ := o8.form
          have B8 : Below wr.heap.size wr w8 := HD.out.1.trans b8
          have cT8 : w8.cell? ⟨cb, 1, none⟩ = some (.slice va2 ps.length vc2) := (B8.cell (p := ⟨cb, 1, none⟩) HQ.out.1.ne).trans cT
          have cT9 : (w8.alloc (.cells #[.slice a8 l.length c8] 102)).cell? ⟨cb, 1, none⟩ = some (.slice va2 ps.length vc2) := (World.cell?_of_block (w := w8) (Below.heap_alloc w8 _ cb (by have := HQ.out.1.ne; have := B8.size; omega))).trans cT8
          have B9 : Below wr.heap.size wr (w8.alloc (.cells #[.slice a8 l.length c8] 102)) := B8.alloc B8.size _
          have H8 : Hid (OwG iC 106 8 w8 wr.heap.size (.slice a8 l.length c8) l ∧ Below wr.heap.size wr w8) := ⟨o8, B8⟩
          clear o8 b8
          (refine hK.out _ _ (HSS.out _ H8.out.2) (fun hHeld => ?_); clear hK K; try simp only [Act.put, List.setIfInBounds_toArray, List.set_cons_zero, List.set_cons_succ])
          clear B8
          (refine wpAnyH_ready (rs := [1, 9]) (by kernel_rfl) (by simp) ?_; refine rgA 1 (by rfl) (fun K hK => ?_) (rgA 9 (by rfl) (fun K hK => ?_) AllReadyH.nil) <;> go_simp)
          focus
            (refine hK.out _ _ (HSS.out _ H8.out.2) (fun hHeld => ?_); clear hK K; try simp only [Act.put, List.setIfInBounds_toArray, List.set_cons_zero, List.set_cons_succ])
            (refine rgS 9 (h := fun K hK => ?_); go_simp)
            (refine hK.out _ _ (HSS.out _ B9) (fun hHeld => ?_); clear hK K; try simp only [Act.put, List.setIfInBounds_toArray, List.set_cons_zero, List.set_cons_succ])
          rotate_left 1
          focus
            (refine hK.out _ _ (HSS.out _ B9) (fun hHeld => ?_); clear hK K; try simp only [Act.put, List.setIfInBounds_toArray, List.set_cons_zero, List.set_cons_succ])
            (refine rgS 1 (h := fun K hK => ?_); go_simp)
            (refine hK.out _ _ (HSS.out _ B9) (fun hHeld => ?_); clear hK K; try simp only [Act.put, List.setIfInBounds_toArray, List.set_cons_zero, List.set_cons_succ])
      all_goals
        clear cT cT2 cT8 cT9 B9
        (refine rgS 10 (h := fun K hK => ?_); rw [if_pos (by rfl)])
        refine app_one_wp (cs := slP) (wr := w8) (.tmp 18) (.tmp 26) 47 102 (by rfl) Tryz.underlying47 infoSlI rfl (by decide) (fun _ => rfl) (w.heap.size + 2) _ ps (.slice a8 l.length c8, l) (HQ.out.1.ot.later H8.out.2) (by rfl) w8.heap.size rfl (by rfl) (by intro u hu; simp [slP] at hu; subst hu; rfl) _ rfl (by unfold maxLen; omega) (by omega) (by have := H8.out.2.size; omega) ?_
        intro v' w3 ho3 hb3 hk3
        obtain ⟨f3, c3, z3⟩ := HQ.out.1.step H8.out.1 H8.out.2 ho3 hb3 hk3
        have S8 := HSS.out _ H8.out.2
        have S3 : w3.cell? ⟨w.heap.size, 1, none⟩ = some (.slice (some ⟨tb, off, none⟩) ts.length tc) ∧ w3.cell? ⟨tb, off + t, none⟩ = some (.slice ia l.length icap) := ⟨(hb3.cell (p := ⟨w.heap.size, 1, none⟩) (by show w.heap.size < _; omega)).trans S8.1, (hb3.cell (p := ⟨tb, off + t, none⟩) (by show tb < _; omega)).trans S8.2⟩
        obtain ⟨a3, k3, rfl⟩ := ho3.form
        generalize (ps ++ [(Value.slice a8 l.length c8, l)]).length = mm at *
        have hcl := HQ.out.1.cl
        have S4 : (w3.setCell ⟨cb, 1, none⟩ (.slice a3 mm k3)).cell? ⟨w.heap.size, 1, none⟩ = some (.slice (some ⟨tb, off, none⟩) ts.length tc) ∧ (w3.setCell ⟨cb, 1, none⟩ (.slice a3 mm k3)).cell? ⟨tb, off + t, none⟩ = some (.slice ia l.length icap) :=
          have e2 : ∀ g j, g < w.heap.size + 2 → (w3.setCell ⟨cb, 1, none⟩ (.slice a3 mm k3)).cell? ⟨g, j, none⟩ = w3.cell? ⟨g, j, none⟩ := fun g j hn => World.cell?_setCell_other _ _ _ _ (fun e => by have : cb = g := congrArg Addr.block e; omega)
          ⟨(e2 _ _ (by omega)).trans S3.1, (e2 _ _ (by omega)).trans S3.2⟩
        have H3 : Hid (Cp w (w3.setCell ⟨cb, 1, none⟩ (.slice a3 mm k3)) (litC ca cs.length cc (some ⟨tb, off, none⟩) ts.length tc) cb (.slice va cs.length vc) (.slice a3 mm k3) cs (ps ++ [(Value.slice a8 l.length c8, l)]) ∧ (ps ++ [(Value.slice a8 l.length c8, l)]).map Prod.snd = ts.take (t + 1)) := ⟨f3, by rw [List.map_append, HQ.out.2, HT.out]; rfl⟩
        clear f3 ho3 hb3 hk3 S8 HQ H8 HI HT hcl
        (refine hK.out _ _ S3 (fun hHeld => ?_); clear hK K; try simp only [Act.put, List.setIfInBounds_toArray, List.set_cons_zero, List.set_cons_succ])
        refine rgT 11 (h := ?_)
        (refine rgS 12 (h := fun K hK => ?_); go_simp)
        (refine hK.out _ _ S4 (fun hHeld => ?_); clear hK K; try simp only [Act.put, List.setIfInBounds_toArray, List.set_cons_zero, List.set_cons_succ])
        refine wpAnyH_done (by kernel_rfl) ?_ _
        clear S3 S4 c3 z3
        go_wp2
        go_roundw
        case rel => exact ⟨t + 1, _, _, by go_num, by omega, H3.out.2, H3.out.1⟩
        case measure => simp [intOf]; omega
    · have : t = ts.length := by omega
      obtain ⟨va2, vc2, rfl⟩ := HQ.out.1.ot.form
      obtain ⟨-, er⟩ := HBox.out wr HQ.out.1.bl
      have cA := (cell?_heap HQ.out.1.lb 0).trans rfl
      have cB := (cell?_heap HQ.out.1.lb 1).trans rfl
      have r0 := (cell?_heap er 0).trans rfl
      have r1 := (cell?_heap er 1).trans rfl
      have q0 := frozen?_heap er 0
      have q1 := frozen?_heap er 1
      have hne : w.heap.size + 2 ≤ cb := HQ.out.1.cl
      have e1 : (wr.setCell ⟨w.heap.size + 1, 0, none⟩ (.slice va cs.length vc)).heap[w.heap.size + 1]? = some (.cells #[.slice va cs.length vc, .slice none 0 0] 49) := heapSet er _
      have z1 : ((wr.setCell ⟨w.heap.size + 1, 0, none⟩ (.slice va cs.length vc)).setCell ⟨w.heap.size + 1, 1, none⟩ (.slice va2 ps.length vc2)).heap[w.heap.size + 1]? = some (.cells #[.slice va cs.length vc, .slice va2 ps.length vc2] 49) := heapSet e1 _
      have ks : Keeps (fun x => x = w.heap.size + 1) wr ((wr.setCell ⟨w.heap.size + 1, 0, none⟩ (.slice va cs.length vc)).setCell ⟨w.heap.size + 1, 1, none⟩ (.slice va2 ps.length vc2)) := Keeps.setCell (B := fun x => x = w.heap.size + 1) (Keeps.setCell (B := fun x => x = w.heap.size + 1) (Keeps.refl _ _) rfl _) rfl _
      have HX : Hid ((∃ tv', LitG ((wr.setCell ⟨w.heap.size + 1, 0, none⟩ (.slice va cs.length vc)).setCell ⟨w.heap.size + 1, 1, none⟩ (.slice va2 ps.length vc2)) ((wr.setCell ⟨w.heap.size + 1, 0, none⟩ (.slice va cs.length vc)).setCell ⟨w.heap.size + 1, 1, none⟩ (.slice va2 ps.length vc2)).heap.size va vc va2 vc2 tv' cs ts) ∧ Below w.heap.size w ((wr.setCell ⟨w.heap.size + 1, 0, none⟩ (.slice va cs.length vc)).setCell ⟨w.heap.size + 1, 1, none⟩ (.slice va2 ps.length vc2)) ∧ ps.length = ts.length) := by
        have ap : ∀ {α : Type} {f : α → List Value} {e : TypeId} {n : Nat} {v : Value} {xs : List α}, OwG f e n wr (w.heap.size + 2) v xs → OwG f e n ((wr.setCell ⟨w.heap.size + 1, 0, none⟩ (.slice va cs.length vc)).setCell ⟨w.heap.size + 1, 1, none⟩ (.slice va2 ps.length vc2)) (w.heap.size + 2) v xs := fun ho => owK ho ks (fun g hg e => by have := (World.ownsRow.lt ho g hg).1; omega)
        refine ⟨LitG.of ps (ap HQ.out.1.oc).in (ap HQ.out.1.ot).in (fun p hp => (ap (HQ.out.1.oi p hp)).in) ?_ (by omega) (by omega) (fun i hi => by have := HL3.out i hi; omega), ?_, HPL.out.trans this⟩
        · rw [HQ.out.2, this, List.take_length]
        · exact (HK0.out.trans (HQ.out.1.bl.mono (by omega))).trans (ks.below (by have := HQ.out.1.bl.size; omega) (fun k hk e => by omega))
      clear e1 ks
      clear hpl this
      go_wp2
      exact bodyPost_ret (results_cell_row rfl _ _ (w.heap.size + 1) _ _ (0, 0) _ (by rfl) z1 Tryz.underlying49 rfl (by kernel_rfl)) rfl ⟨va, vc, va2, vc2, HX.out.1.choose, by rw [HX.out.2.2], HX.out.1.choose_spec, HX.out.2.1⟩
end Go.Proofs.YtdpebhdjcgiboaaGreat
