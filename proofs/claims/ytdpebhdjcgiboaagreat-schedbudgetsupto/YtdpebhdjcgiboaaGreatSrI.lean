import Derived.Test.YtdpebhdjcgiboaaGreatSrH
import Derived.Test.YtdpebhdjcgiboaaGreatSh3
namespace Go.Proofs.YtdpebhdjcgiboaaGreat
set_option linter.unusedSimpArgs false
open Go.ChangeShapes Go.WideShapes Go.ChangeAt Go.RowKit Go.MuLone Go.RwLone
set_option linter.unusedVariables false
set_option maxRecDepth 100000
set_option maxHeartbeats 3200000
theorem rwords_any (w : World) (C : Nat) (hC : C ≤ w.heap.size) (a : Option Addr) (c : Nat) (xs : List Int) (h : InG wdC w C (.slice a xs.length c) xs) (hl : xs.length ≤ 1099511627776) :
    Calls Tryz.prog 96 #[.slice a xs.length c] w fun e w' => ∃ a' c', e = .returned (.slice a' xs.length c') ∧ OwW w' w.heap.size (.slice a' xs.length c') xs ∧ Below w.heap.size w w' := by
  have H : Hid (InG wdC w C (.slice a xs.length c) xs) := h
  clear h
  go_enter Tryz.func96, Tryz.ntmps96
  go_wp2_with (at_builtin; refine hideG ?_)
  change wpList _ _ _ _ _ _
  refine copy_list (cs := wdC) (w := w) (by rfl) _ _ 46 55 (by rfl) Tryz.underlying46 infoU64 rfl (by decide) (fun _ => rfl) w.heap.size rfl (by rfl) C _ xs (by rfl) H.out hC (fun y _ => wdC_one y) (by unfold maxLen; omega) (by omega) ?_
  intro v' w' ho hb
  obtain ⟨a', c', rfl⟩ := ho.form
  have HX : Hid (OwW w' w.heap.size (.slice a' xs.length c') xs ∧ Below w.heap.size w w') := ⟨ho, hb⟩
  clear ho hb
  go_wp2
  go_ret
  exact ⟨a', c', rfl, HX.out⟩
/-- A thread of the document's program at its begin: where its instructions lie, its registers' block. -/
abbrev Tn := Value × Nat × List I8
def tdC (q : Tn) : List Value := [q.1, .slice (some ⟨q.2.1, 0, none⟩) 4 4, .int .i64 0]
theorem tdC_one {a : Option Addr} {m c rb : Nat} {l : List I8} : ∀ u ∈ tdC (.slice a m c, rb, l), u.oneCell' = true := by
  intro u hu
  simp [tdC] at hu
  rcases hu with rfl | rfl | rfl <;> rfl
theorem infoTd : (Tryz.prog.info? 169).map (fun i => (i.zero, i.size, i.bytes)) = some (some (.agg #[.slice none 0 0, .slice none 0 0, .int .i64 0]), 3, 56) := by kernel_rfl
abbrev zr4 : Array Value := madeCells #[.int .u64 0] 4
/-- The lists of a program just made. -/
structure Pn (w : World) (B : Nat) (cv tvv : Value) (cs : List Int) (qs : List Tn) : Prop where
  oc : OwW w B cv cs
  ot : OwG tdC 169 3 w B tvv qs
  oi : ∀ q ∈ qs, OwG iC 106 8 w B q.1 q.2.2
  rr : ∀ q ∈ qs, w.heap[q.2.1]? = some (.cells zr4 55) ∧ B ≤ q.2.1 ∧ ∀ g, cv.ownBlock = some g → g < q.2.1
  inc : qs.Pairwise (fun a b => a.2.1 < b.2.1)
theorem Pn.later {w w' : World} {B : Nat} {cv tvv : Value} {cs : List Int} {qs : List Tn} (h : Pn w B cv tvv cs qs) (k : Below w.heap.size w w') : Pn w' B cv tvv cs qs :=
  ⟨h.oc.later k, h.ot.later k, fun q hq => (h.oi q hq).later k, fun q hq => ⟨(k.block _ (Array.getElem?_eq_some_iff.1 (h.rr q hq).1).1).trans (h.rr q hq).1, (h.rr q hq).2⟩, h.inc⟩
theorem Pn.keeps {w w' : World} {B : Nat} {cv tvv : Value} {cs : List Int} {qs : List Tn} {D : Nat → Prop} (h : Pn w B cv tvv cs qs) (k : Keeps D w w') (hD : ∀ x, D x → x < B ∨ ∃ c, w.heap[x]? = some (.cells c 85)) : Pn w' B cv tvv cs qs := by
  have ap : ∀ {α : Type} {f : α → List Value} {e : TypeId} {n : Nat} {v : Value} {xs : List α}, OwG f e n w B v xs → e ≠ 85 → OwG f e n w' B v xs := fun ho hne => owK ho k (fun g hg hd => by
    rcases hD g hd with e | ⟨c, e⟩
    · have := (World.ownsRow.lt ho g hg).1; omega
    · obtain ⟨cur, hcur⟩ := blk ho hg
      exact neT hcur e hne rfl)
  refine ⟨ap h.oc (by decide), ap h.ot (by decide), fun q hq => ap (h.oi q hq) (by decide), fun q hq => ⟨(k.block _ (Array.getElem?_eq_some_iff.1 (h.rr q hq).1).1 (fun hd => ?_)).trans (h.rr q hq).1, (h.rr q hq).2⟩, h.inc⟩
  rcases hD _ hd with e | ⟨c, e⟩
  · have := (h.rr q hq).2.1; omega
  · exact neT (h.rr q hq).1 e (by decide) rfl
abbrev npW (w : World) (c : Array Value) : World := (lgW w c).alloc (.cells #[.slice none 0 0, .slice none 0 0] 85)
theorem npW_size (w : World) (c : Array Value) : (npW w c).heap.size = w.heap.size + 2 := by rw [szAl, szAl]
/-- In the midst of making a program. -/
structure Np (w wr : World) (c : Array Value) (pb : Nat) (cv tvv : Value) (cs : List Int) (qs : List Tn) : Prop where
  pn : Pn wr (w.heap.size + 2) cv tvv cs qs
  lb : wr.heap[pb]? = some (.cells #[cv, tvv] 85)
  bl : Below (w.heap.size + 2) (npW w c) wr
  cl : w.heap.size + 2 ≤ pb
  cg : ∀ g, cv.ownBlock = some g → g < pb
theorem Np.lt {w wr : World} {c : Array Value} {pb : Nat} {cv tvv : Value} {cs : List Int} {qs : List Tn} (h : Np w wr c pb cv tvv cs qs) : pb < wr.heap.size := (Array.getElem?_eq_some_iff.1 h.lb).1
theorem Np.later {w wr w' : World} {c : Array Value} {pb : Nat} {cv tvv : Value} {cs : List Int} {qs : List Tn} (h : Np w wr c pb cv tvv cs qs) (k : Below wr.heap.size wr w') : Np w w' c pb cv tvv cs qs := by
  have := h.lt
  have := h.cl
  exact ⟨h.pn.later k, (k.block _ h.lt).trans h.lb, h.bl.trans (k.mono (by omega)), h.cl, h.cg⟩
theorem Np.step {w wr w3 : World} {c : Array Value} {pb : Nat} {cv tvv v8 v' : Value} {cs : List Int} {qs : List Tn} {l : List I8} (h : Np w wr c pb cv tvv cs qs) (h8 : OwG iC 106 8 wr (w.heap.size + 2) v8 l) (ho : OwG tdC 169 3 w3 (w.heap.size + 2) v' (qs ++ [(v8, wr.heap.size, l)])) (hb : Below (w.heap.size + 2) (wr.alloc (.cells zr4 55)) w3) (hk : KpT 169 (wr.alloc (.cells zr4 55)) w3) :
    Np w (w3.setCell ⟨pb, 1, none⟩ v') c pb cv v' cs (qs ++ [(v8, wr.heap.size, l)]) ∧ w3.cell? ⟨pb, 1, none⟩ = some tvv ∧ w3.frozen? ⟨pb, 1, none⟩ = false := by
  have b0 : Below wr.heap.size wr (wr.alloc (.cells zr4 55)) := (Below.refl _ _).alloc (Nat.le_refl _) _
  have h1 := h.later b0
  have e1 := h1.lb
  have e3 : w3.heap[pb]? = some (.cells #[cv, tvv] 85) := (hk _ _ _ _ e1 (by decide)).trans e1
  have ks : Keeps (fun x => x = pb) w3 (w3.setCell ⟨pb, 1, none⟩ v') := Keeps.setCell (B := fun x => x = pb) (Keeps.refl _ _) rfl _
  have hlt := h.lt
  have hcl := h.cl
  have hs3 := hb.size
  rw [szAl] at hs3
  have en : (wr.alloc (.cells zr4 55)).heap[wr.heap.size]? = some (.cells zr4 55) := heap_alloc_last _ _ _ rfl
  have pn3 : Pn w3 (w.heap.size + 2) cv v' cs (qs ++ [(v8, wr.heap.size, l)]) := by
    refine ⟨h1.pn.oc.kept hk (by decide), ho, fun q hq => ?_, fun q hq => ?_, ?_⟩
    · rcases List.mem_append.1 hq with hq | hq
      · exact (h1.pn.oi q hq).kept hk (by decide)
      · obtain rfl := List.mem_singleton.1 hq
        exact (h8.later b0).kept hk (by decide)
    · rcases List.mem_append.1 hq with hq | hq
      · exact ⟨(hk _ _ _ _ (h1.pn.rr q hq).1 (by decide)).trans (h1.pn.rr q hq).1, (h1.pn.rr q hq).2⟩
      · obtain rfl := List.mem_singleton.1 hq
        exact ⟨(hk _ _ _ _ en (by decide)).trans en, by show _ ≤ wr.heap.size; omega, fun g hg => by have := h.cg g hg; show g < wr.heap.size; omega⟩
    · refine List.pairwise_append.2 ⟨h.pn.inc, List.pairwise_singleton .., fun a ha b hb => ?_⟩
      obtain rfl := List.mem_singleton.1 hb
      exact (Array.getElem?_eq_some_iff.1 (h.pn.rr a ha).1).1
  refine ⟨⟨pn3.keeps ks (fun x e => .inr ⟨#[cv, tvv], by rw [e]; exact e3⟩), heapSet e3 _, ?_, h.cl, h.cg⟩, (cell?_heap e3 1).trans rfl, frozen?_heap e3 1⟩
  refine (h1.bl.trans hb).trans (ks.below (by omega) (fun k hk e => by omega))
theorem rnewp_any (w : World) (C : Nat) (ca : Option Addr) (cc : Nat) (ta : Option Addr) (tc : Nat) (tv : Nat → Value) (cs : List Int) (ts : List (List I8)) (h : LitG w C ca cc ta tc tv cs ts) (hC : C ≤ w.heap.size) (l1 : cs.length ≤ 1099511627776) (l2 : ts.length ≤ 1099511627776) (l3 : ∀ i (hi : i < ts.length), ts[i].length ≤ 1099511627776) :
    Calls Tryz.prog 56 #[.agg (litC ca cs.length cc ta ts.length tc)] w fun e w' => ∃ cv tvv qs, e = .returned (.agg #[cv, tvv]) ∧ Pn w' (w.heap.size + 2) cv tvv cs qs ∧ qs.map (fun q => q.2.2) = ts ∧ Below w.heap.size w w' := by
  have k0 : Below w.heap.size w (npW w (litC ca cs.length cc ta ts.length tc)) := ((Below.refl _ _).alloc (Nat.le_refl _) _).alloc (by rw [szAl]; omega) _
  have sz := npW_size w (litC ca cs.length cc ta ts.length tc)
  have H : Hid (∀ W, Below (w.heap.size + 2) (npW w (litC ca cs.length cc ta ts.length tc)) W → LitG W C ca cc ta tc tv cs ts) := fun W k => h.later ((k0.mono hC).trans (k.mono (by omega)))
  have HBox : Hid (∀ W, Below (w.heap.size + 2) (npW w (litC ca cs.length cc ta ts.length tc)) W → W.cell? ⟨w.heap.size, 1, none⟩ = some (.slice ta ts.length tc) ∧ W.heap[w.heap.size + 1]? = some (.cells #[.slice none 0 0, .slice none 0 0] 85)) := fun W k => by
    have e0 : W.heap[w.heap.size]? = some (.cells (litC ca cs.length cc ta ts.length tc) 49) := (k.block _ (by omega)).trans ((Below.heap_alloc _ _ _ (by rw [szAl]; omega)).trans (heap_alloc_last _ _ _ rfl))
    exact ⟨(cell?_heap e0 1).trans rfl, (k.block _ (by omega)).trans (heap_alloc_last _ _ _ (szAl _ _).symm)⟩
  have HW := rwords_any (npW w (litC ca cs.length cc ta ts.length tc)) C (by omega) ca cc cs (H.out _ (Below.refl _ _)).c l1
  rw [sz] at HW
  have HWW : Hid (∀ _ : Unit, _) := fun _ => HW
  have HK0 : Hid (Below w.heap.size w (npW w (litC ca cs.length cc ta ts.length tc))) := k0
  have HL3 : Hid (∀ i (hi : i < ts.length), ts[i].length ≤ 1099511627776) := l3
  clear h k0 l3 HW
  have hm : ∀ w : World, (Instr.makeSlice 46 (.int .i64 4) (.int .i64 4)).run Tryz.prog w = .ok (.slice (some ⟨w.heap.size, 0, none⟩) 4 4) (w.alloc (.cells zr4 55)) := fun w => run_make_any (P := Tryz.prog) 46 55 _ 1 8 Tryz.underlying46 infoU64 4 (by omega) (by omega) w
  go_enter Tryz.func56, Tryz.ntmps56
  go_wp2_with fail
  refine (HWW.out ()).mono ?_
  rintro e w' ⟨va, vc, rfl, ho, hb⟩
  have HS : Hid (Np w (w'.alloc (.cells #[.slice va cs.length vc, .slice none 0 0] 85)) (litC ca cs.length cc ta ts.length tc) w'.heap.size (.slice va cs.length vc) (.slice none 0 0) cs []) := ⟨⟨World.ownsRow.alloc ho _, OwG.nil _ _ _ _ _, (fun p hp => by cases hp), (fun p hp => by cases hp), List.Pairwise.nil⟩, heap_alloc_last _ _ _ rfl, hb.alloc (by have := hb.size; omega) _, by have := hb.size; omega, fun g hg => (World.ownsRow.lt ho g hg).2⟩
  clear ho hb HWW
  go_wp2_with fail
  generalize w'.alloc (.cells #[.slice va cs.length vc, .slice none 0 0] 85) = w1 at *
  generalize w'.heap.size = pb at *
  go_loopw [4] (fun c wr => ∃ (t : Nat) (tvv : Value) (qs : List Tn), c = .int .i64 t ∧ t ≤ ts.length ∧ qs.map (fun q => q.2.2) = ts.take t ∧ Np w wr (litC ca cs.length cc ta ts.length tc) pb (.slice va cs.length vc) tvv cs qs) (fun c _ => ts.length - (intOf c).toNat)
  case atStart => exact ⟨0, _, [], rfl, by omega, rfl, HS.out⟩
  case round =>
    rename World => wr0
    obtain ⟨t, tvv, qs, rfl, ht, hps, hcp⟩ := hrel
    have HQ : Hid (Np w wr0 (litC ca cs.length cc ta ts.length tc) pb (.slice va cs.length vc) tvv cs qs ∧ qs.map (fun q => q.2.2) = ts.take t) := ⟨hcp, hps⟩
    have HPL : Hid (qs.length = t) := by show _ = _; have := congrArg List.length hps; simpa [Nat.min_eq_left ht] using this
    have hpl : qs.length ≤ 1099511627776 := by have := HPL.out; omega
    clear hcp hps HS
    obtain ⟨c1, -⟩ := HBox.out wr0 HQ.out.1.bl
    by_cases h5 : t < ts.length
    · have t0 : (0 : Int) ≤ (t : Int) := Int.natCast_nonneg _
      have t1 : (t : Int) < (ts.length : Int) := by omega
      have lg := H.out wr0 HQ.out.1.bl
      obtain ⟨tb, off, rfl, htb, ct⟩ := lg.t t h5
      have hin := lg.i t h5
      obtain ⟨ia, icap, hiv⟩ := hin.form
      rw [hiv] at ct hin
      have hli := HL3.out t h5
      have HT : Hid (ts.take (t + 1) = ts.take t ++ [ts[t]]) := by show _ = _; rw [List.take_succ_eq_append_getElem h5]
      generalize ts[t] = l at *
      obtain ⟨va2, vc2, rfl⟩ := HQ.out.1.pn.ot.form
      have hsz : w.heap.size + 2 ≤ wr0.heap.size := by have := HQ.out.1.cl; have := HQ.out.1.lt; omega
      have HI : Hid (InG iC wr0 C (.slice ia l.length icap) l ∧ C ≤ wr0.heap.size) := ⟨hin, by omega⟩
      have eA : ∀ g j, g < wr0.heap.size → (wr0.alloc (.cells #[] 106)).cell? ⟨g, j, none⟩ = wr0.cell? ⟨g, j, none⟩ := fun g j hg => World.cell?_of_block (w := wr0) (Below.heap_alloc wr0 _ g hg)
      have c1a : (wr0.alloc (.cells #[] 106)).cell? ⟨w.heap.size, 1, none⟩ = some (.slice (some ⟨tb, off, none⟩) ts.length tc) := (eA _ _ (by omega)).trans c1
      have cta : (wr0.alloc (.cells #[] 106)).cell? ⟨tb, off + t, none⟩ = some (.slice ia l.length icap) := (eA _ _ (by omega)).trans ct
      clear hin hiv lg eA
      go_wp2_with (at_builtin; refine hideG ?_)
      change wpList _ _ _ _ _ _
      refine copy_list (cs := iC) (w := wr0) (by rfl) _ _ 102 106 (by rfl) Tryz.underlying102 infoIn rfl (by decide) (fun _ => rfl) wr0.heap.size rfl (by rfl) C _ l (by rfl) HI.out.1 HI.out.2 (fun y _ => iC_one y) (by unfold maxLen; omega) (by omega) ?_
      intro v8 w8 o8 b8
      obtain ⟨a8, c8, rfl⟩ := o8.form
      have n8 := HQ.out.1.later b8
      have h8z : w.heap.size + 2 ≤ w8.heap.size := by have := b8.size; omega
      have H8 : Hid (OwG iC 106 8 w8 (w.heap.size + 2) (.slice a8 l.length c8) l ∧ Np w w8 (litC ca cs.length cc (some ⟨tb, off, none⟩) ts.length tc) pb (.slice va cs.length vc) (.slice va2 qs.length vc2) cs qs) := ⟨o8.down hsz, n8⟩
      have cT : w8.drew.cell? ⟨pb, 1, none⟩ = some (.slice va2 qs.length vc2) := (cell?_heap n8.lb 1).trans rfl
      have cT2 : (w8.alloc (.cells zr4 55)).cell? ⟨pb, 1, none⟩ = some (.slice va2 qs.length vc2) := (World.cell?_of_block (w := w8) (Below.heap_alloc w8 _ pb n8.lt)).trans cT
      have cT3 : ((w8.alloc (.cells zr4 55)).alloc (.cells #[.slice a8 l.length c8, .slice (some ⟨w8.heap.size, 0, none⟩) 4 4, .int .i64 0] 169)).cell? ⟨pb, 1, none⟩ = some (.slice va2 qs.length vc2) := (World.cell?_of_block (w := w8.alloc (.cells zr4 55)) (Below.heap_alloc _ _ pb (by rw [szAl]; have := n8.lt; omega))).trans cT2
      clear o8 b8 n8 c1 ct c1a cta HI
      go_wp2_with fail
      (refine wp_region_held_drew (S := (fun _ => True)) (by kernel_rfl) trivial (fun hHeld => ?_); simp only [List.size_toArray, List.length_cons, List.length_nil, Nat.reduceAdd, Array.replicate_succ, Array.replicate_zero, List.push_toArray, List.append_toArray, List.nil_append, List.cons_append])
      refine rgT 0 (h := ?_)
      refine rgT 2 (h := ?_)
      (refine wpAnyH_ready (rs := [1, 3]) (by kernel_rfl) (by simp) ?_; refine rgA 1 (by rfl) (fun K hK => ?_) (rgA 3 (by rfl) (fun K hK => ?_) AllReadyH.nil) <;> go_simp)
      focus
        (refine hK.out _ _ trivial (fun hHeld => ?_); clear hK K; try simp only [Act.put, List.setIfInBounds_toArray, List.set_cons_zero, List.set_cons_succ])
        (refine rgS 3 (h := fun K hK => ?_); go_simp)
        (refine hK.out _ _ trivial (fun hHeld => ?_); clear hK K; try simp only [Act.put, List.setIfInBounds_toArray, List.set_cons_zero, List.set_cons_succ])
        refine rgT 4 (h := ?_)
        (refine rgS 5 (h := fun K hK => ?_); go_simp)
        (refine hK.out _ _ trivial (fun hHeld => ?_); clear hK K; try simp only [Act.put, List.setIfInBounds_toArray, List.set_cons_zero, List.set_cons_succ])
      rotate_left 1
      focus
        (refine hK.out _ _ trivial (fun hHeld => ?_); clear hK K; try simp only [Act.put, List.setIfInBounds_toArray, List.set_cons_zero, List.set_cons_succ])
        refine rgT 4 (h := ?_)
        (refine wpAnyH_ready (rs := [1, 5]) (by kernel_rfl) (by simp) ?_; refine rgA 1 (by rfl) (fun K hK => ?_) (rgA 5 (by rfl) (fun K hK => ?_) AllReadyH.nil) <;> go_simp)
        focus
          (refine hK.out _ _ trivial (fun hHeld => ?_); clear hK K; try simp only [Act.put, List.setIfInBounds_toArray, List.set_cons_zero, List.set_cons_succ])
          (refine rgS 5 (h := fun K hK => ?_); go_simp)
          (refine hK.out _ _ trivial (fun hHeld => ?_); clear hK K; try simp only [Act.put, List.setIfInBounds_toArray, List.set_cons_zero, List.set_cons_succ])
        rotate_left 1
        focus
          (refine hK.out _ _ trivial (fun hHeld => ?_); clear hK K; try simp only [Act.put, List.setIfInBounds_toArray, List.set_cons_zero, List.set_cons_succ])
          (refine rgS 1 (h := fun K hK => ?_); go_simp)
          (refine hK.out _ _ trivial (fun hHeld => ?_); clear hK K; try simp only [Act.put, List.setIfInBounds_toArray, List.set_cons_zero, List.set_cons_succ])
      all_goals
        clear cT cT2 cT3
        (refine rgS 6 (h := fun K hK => ?_); rw [if_pos (by rfl)])
        refine app_one_wp (cs := tdC) (wr := w8.drew.alloc (.cells zr4 55)) (.tmp 25) (.tmp 29) 83 169 (by rfl) Tryz.underlying83 infoTd rfl (by decide) (fun _ => rfl) (w.heap.size + 2) _ qs (.slice a8 l.length c8, w8.heap.size, l) (World.ownsRow.alloc (H8.out.2.pn.ot.later (Below.refl _ _).drew) _) (by rfl) (w8.heap.size + 1) (by rw [szAl]; rfl) (by rfl) tdC_one _ rfl (by unfold maxLen; omega) (by omega) (by rw [szAl]; show _ ≤ w8.heap.size + 1; omega) ?_
        intro v' w3 ho3 hb3 hk3
        obtain ⟨f3, c3, z3⟩ := (H8.out.2.later (w' := w8.drew) (Below.refl _ _).drew).step (w3 := w3) (H8.out.1.later (Below.refl _ _).drew) ho3 hb3 hk3
        obtain ⟨a3, k3, rfl⟩ := ho3.form
        generalize (qs ++ [((Value.slice a8 l.length c8, w8.heap.size, l) : Tn)]).length = mm at *
        have H3 : Hid (Np w (w3.setCell ⟨pb, 1, none⟩ (.slice a3 mm k3)) (litC ca cs.length cc (some ⟨tb, off, none⟩) ts.length tc) pb (.slice va cs.length vc) (.slice a3 mm k3) cs (qs ++ [((Value.slice a8 l.length c8, w8.heap.size, l) : Tn)]) ∧ (qs ++ [((Value.slice a8 l.length c8, w8.heap.size, l) : Tn)]).map (fun q => q.2.2) = ts.take (t + 1)) := ⟨f3, by rw [List.map_append, HQ.out.2, HT.out]; rfl⟩
        clear f3 ho3 hb3 hk3 HQ H8 HT
        (refine hK.out _ _ trivial (fun hHeld => ?_); clear hK K; try simp only [Act.put, List.setIfInBounds_toArray, List.set_cons_zero, List.set_cons_succ])
        refine rgT 7 (h := ?_)
        (refine rgS 8 (h := fun K hK => ?_); go_simp)
        (refine hK.out _ _ trivial (fun hHeld => ?_); clear hK K; try simp only [Act.put, List.setIfInBounds_toArray, List.set_cons_zero, List.set_cons_succ])
        refine wpAnyH_done (by kernel_rfl) ?_ _
        clear c3 z3
        go_wp2
        go_roundw
        case rel => exact ⟨t + 1, _, _, by go_num, by omega, H3.out.2, H3.out.1⟩
        case measure => simp [intOf]; omega
    · have htt : t = ts.length := by omega
      obtain ⟨va2, vc2, rfl⟩ := HQ.out.1.pn.ot.form
      obtain ⟨-, er⟩ := HBox.out wr0 HQ.out.1.bl
      have cA : wr0.cell? ⟨pb, 0, none⟩ = some (.slice va cs.length vc) := (cell?_heap HQ.out.1.lb 0).trans rfl
      have cB : wr0.cell? ⟨pb, 1, none⟩ = some (.slice va2 qs.length vc2) := (cell?_heap HQ.out.1.lb 1).trans rfl
      have r0 := (cell?_heap er 0).trans rfl
      have r1 := (cell?_heap er 1).trans rfl
      have q0 := frozen?_heap er 0
      have q1 := frozen?_heap er 1
      have hne : w.heap.size + 2 ≤ pb := HQ.out.1.cl
      have e1 : (wr0.setCell ⟨w.heap.size + 1, 0, none⟩ (.slice va cs.length vc)).heap[w.heap.size + 1]? = some (.cells #[.slice va cs.length vc, .slice none 0 0] 85) := heapSet er _
      have z1 : ((wr0.setCell ⟨w.heap.size + 1, 0, none⟩ (.slice va cs.length vc)).setCell ⟨w.heap.size + 1, 1, none⟩ (.slice va2 qs.length vc2)).heap[w.heap.size + 1]? = some (.cells #[.slice va cs.length vc, .slice va2 qs.length vc2] 85) := heapSet e1 _
      have ks : Keeps (fun x => x = w.heap.size + 1) wr0 ((wr0.setCell ⟨w.heap.size + 1, 0, none⟩ (.slice va cs.length vc)).setCell ⟨w.heap.size + 1, 1, none⟩ (.slice va2 qs.length vc2)) := Keeps.setCell (B := fun x => x = w.heap.size + 1) (Keeps.setCell (B := fun x => x = w.heap.size + 1) (Keeps.refl _ _) rfl _) rfl _
      have HX : Hid (Pn ((wr0.setCell ⟨w.heap.size + 1, 0, none⟩ (.slice va cs.length vc)).setCell ⟨w.heap.size + 1, 1, none⟩ (.slice va2 qs.length vc2)) (w.heap.size + 2) (.slice va cs.length vc) (.slice va2 qs.length vc2) cs qs ∧ qs.map (fun q => q.2.2) = ts ∧ Below w.heap.size w ((wr0.setCell ⟨w.heap.size + 1, 0, none⟩ (.slice va cs.length vc)).setCell ⟨w.heap.size + 1, 1, none⟩ (.slice va2 qs.length vc2))) := by
        refine ⟨HQ.out.1.pn.keeps ks (fun x e => .inl (by omega)), by rw [HQ.out.2, htt, List.take_length], ?_⟩
        exact (HK0.out.trans (HQ.out.1.bl.mono (by omega))).trans (ks.below (by have := HQ.out.1.bl.size; omega) (fun k hk e => by omega))
      clear e1 ks hpl htt
      go_wp2
      exact bodyPost_ret (results_cell_row rfl _ _ (w.heap.size + 1) _ _ (0, 0) _ (by rfl) z1 Tryz.underlying85 rfl (by kernel_rfl)) rfl ⟨_, _, qs, rfl, HX.out⟩
end Go.Proofs.YtdpebhdjcgiboaaGreat
