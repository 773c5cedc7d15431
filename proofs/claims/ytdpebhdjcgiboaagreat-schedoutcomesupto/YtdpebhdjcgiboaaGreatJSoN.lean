import Derived.Test.YtdpebhdjcgiboaaGreatJSoI
import Derived.Test.YtdpebhdjcgiboaaGreatJSoS
namespace Go.Proofs.YtdpebhdjcgiboaaGreat
open Go.ChangeShapes Go.WideShapes Go.ChangeAt Go.RowKit Go.MuLone Go.RwLone
set_option linter.unusedVariables false
set_option maxRecDepth 100000
set_option maxHeartbeats 6400000
theorem row_holdsK {α : Type} [Inhabited α] {cs : α → List Value} {e : TypeId} {k : Nat} {w : World} {B g n cap : Nat} {xs : List α} (h : OwG cs e k w B (.slice (some ⟨g, 0, none⟩) n cap) xs) (hk : ∀ x, (cs x).length = k) (k0 : 0 < k) : Go.Sort.HoldsK cs k w g 0 xs.toArray := by
  obtain ⟨hn, _, _, _, cur, hg⟩ := owG_cap h
  subst hn
  intro t ht
  have ht2 : t < xs.toArray.size * k := by rw [Go.Sort.size_flatK] at ht; exact ht
  have ht' : t < xs.length * k := by simpa using ht2
  have hq : t / k < xs.length := Nat.div_lt_of_lt_mul (by rw [Nat.mul_comm]; exact ht')
  have hm : t % k < k := Nat.mod_lt _ k0
  refine ⟨?_, ?_⟩
  · rw [Nat.zero_add, World.ownsRow.cellAt h t ht']
    have := flat_get cs k hk xs (t / k) hq (t % k) hm
    rw [Nat.div_add_mod'] at this
    rw [this, Go.Sort.get_flatK _ _ _ _ ht2, List.getElem?_eq_getElem (by rw [hk]; exact hm)]
    congr 1
    rw [getElem!_pos xs.toArray (t / k) (by simpa using hq), getElem!_pos _ _ (by rw [hk]; exact hm)]
    simp
  · exact frozen?_heap hg _
theorem putRowK_keeps {α : Type} [Inhabited α] (cs : α → List Value) (k : Nat) (w : World) (n g off : Nat) (d : Array α) : Keeps (fun y => y = g) w (Go.Sort.putRowK cs k (Go.Sort.ahead w n) g off d) := by
  refine ⟨rfl, rfl, rfl, ?_, fun x hx hn => ?_⟩
  · unfold Go.Sort.putRowK
    rw [Go.Sort.size_putRow]
    exact Nat.le_refl _
  · unfold Go.Sort.putRowK Go.Sort.putRow Go.Sort.mapBlock
    show (w.heap.modify g _)[x]? = _
    rw [Array.getElem?_modify, if_neg (fun e => hn e.symm)]
end Go.Proofs.YtdpebhdjcgiboaaGreat

namespace Go.Proofs.YtdpebhdjcgiboaaGreat
set_option linter.unusedSimpArgs false
open Go.ChangeShapes Go.WideShapes Go.ChangeAt Go.RowKit Go.MuLone Go.RwLone
set_option linter.unusedVariables false
set_option maxRecDepth 100000
set_option maxHeartbeats 6400000
/-- An outcome told, in blocks of its own. -/
def Told (w w' : World) (G : Nat → Prop) (B : Bd) (bb hb qb : Nat) (tv : Value) (kb mb : Nat) (vv ev : Value) (V : List (Vi (List Int))) (E : List Nat) (v : Vi (List Int)) (g : Nat) (rv : Value) : Prop :=
  OwW w' w.heap.size (.slice (some ⟨g, 0, none⟩) B.wd B.wd) (wlL (decS v.1).wo B.wd) ∧ OwW w' w.heap.size rv (regsL (decS v.1).rg B.n) ∧ (∃ a', Wb w' G B bb hb qb tv a' kb mb vv ev V E) ∧ Keeps G w w' ∧ ∀ x, rv.ownBlock = some x → x ≠ g
theorem boutE (w : World) (G : Nat → Prop) (B : Bd) (hB : BdOk B) (bb hb qb : Nat) (tv : Value) (a : Hp × Ls) (b : BnF w G B bb hb qb tv a) (hn4 : 1 ≤ B.n ∧ B.n ≤ 4) :
    Calls Tryz.prog 80 #[.pointer (some ⟨bb, 0, none⟩)] w fun e w' => ∃ g rv, e = .returned (.tuple #[.agg #[.slice (some ⟨g, 0, none⟩) B.wd B.wd, rv], .bool (idleP a.1)]) ∧ OwW w' w.heap.size (.slice (some ⟨g, 0, none⟩) B.wd B.wd) (wlL a.2.wo B.wd) ∧ OwW w' w.heap.size rv (regsL a.2.rg B.n) ∧ BnF w' G B bb hb qb tv a ∧ Keeps G w w' ∧ ∀ x, rv.ownBlock = some x → x ≠ g := by
  refine (outcomeG _ w B hB bb hb qb tv a b.g hn4).mono ?_
  rintro e w' ⟨g, rv, he, o1, o2, k, ho⟩
  have hg := (World.ownsRow.lt o1 g rfl).1
  obtain ⟨F, qv, ev, en, m, d, l, nb, nt⟩ := b.h
  have lb := (Array.getElem?_eq_some_iff.1 b.be).1
  exact ⟨g, rv, he, o1, o2.down (by omega), ⟨⟨F, qv, ev, en, m.keeps k (fun x hx hF => d x hF (.inl hx)), d, l, nb, nt⟩, ho, b.lo, b.iv, (k.block bb lb (fun e => b.nb (.inl e))).trans b.be, owK b.ot k (fun g hg e => b.nt g hg (.inl e)), b.nb, b.nt, b.gb, b.gt, fun y hy => Nat.lt_of_lt_of_le (b.gl y hy) k.size⟩, k.mono (fun y e => b.lo y (.inl e)), fun x hx e => by have := (World.ownsRow.lt o2 x hx).1; omega⟩
theorem outcome_any (w : World) (G : Nat → Prop) (B : Bd) (hB : BdOk B) (bb hb qb : Nat) (tv : Value) (a : Hp × Ls) (kb mb : Nat) (vv ev : Value) (V : List (Vi (List Int))) (E : List Nat) (h : Wb w G B bb hb qb tv a kb mb vv ev V E) (hn4 : 1 ≤ B.n ∧ B.n ≤ 4) (hw4 : 1 ≤ B.wd ∧ B.wd ≤ 4) (i : Nat) (v : Vi (List Int)) (hv : V[i]? = some v) (gs : Gs B.wd B.n v.1) (hl : V.length ≤ 6103515625) :
    Calls Tryz.prog 46 #[.pointer (some ⟨kb, 0, none⟩), .int .i64 (i : Int)] w fun e w' => ∃ g rv, e = .returned (.agg #[.slice (some ⟨g, 0, none⟩) B.wd B.wd, rv]) ∧ Told w w' G B bb hb qb tv kb mb vv ev V E v g rv := by
  obtain ⟨gt, ct, htv, -, -⟩ := owG_some h.b.ot (by intro e; have := congrArg List.length e; simp at this; omega)
  rw [List.length_map, List.length_range] at htv
  subst htv
  have hi := (List.getElem?_eq_some_iff.1 hv).1
  obtain ⟨dc, df, de⟩ := gs.dec hw4.2 hn4.2
  have hst : IsSt v.1 := gs.st
  obtain ⟨row, hrow⟩ : ∃ row, rowU v.1 = row := ⟨_, rfl⟩
  have hrl : row.length = 24 := by rw [← hrow]; simp [rowU, hst.l]
  have HRW : Hid (rowU v.1 = row ∧ row.length = 24 ∧ ∀ (j : Nat) (u : Value), row[j]? = some u → (viC v)[j]? = some u) := ⟨hrow, hrl, fun j u hj => by
    rw [viC_row hst.l, hrow, List.getElem?_append_left (List.getElem?_eq_some_iff.1 hj).1]; exact hj⟩
  have HI : Hid ((Tryz.prog.info? 179).map (·.size) = some row.length) := by rw [hrl]; exact iSt
  have HD : Hid (Can B.wd B.n (decS v.1) ∧ Fit B.wd (decS v.1) ∧ encS (decS v.1) = v.1) := ⟨dc, df, de⟩
  have HRES : Hid (∀ (X : World) (a' : Hp × Ls), BnF X G B bb hb qb (.slice (some ⟨gt, 0, none⟩) B.n ct) a' → Can B.wd B.n a'.2 → Calls Tryz.prog 90 #[.pointer (some ⟨bb, 0, none⟩), .agg row.toArray] X fun e w' => e = .returned (.tuple #[]) ∧ BnF w' G B bb hb qb (.slice (some ⟨gt, 0, none⟩) B.n ct) (a'.1, decS v.1) ∧ Keeps (fB B) X w') := fun X a' b' c' => by
    have := restore_any X G B hB bb hb qb _ a' b' hn4 hw4 c' (decS v.1) dc df.w (fun i hi => df.p i)
    rw [de, hrow] at this
    exact this
  obtain ⟨gv, cv, hvv, -⟩ := visit_at h.k.v hi
  subst hvv
  have hVi : V[i] = v := by
    have e1 := hv
    rw [List.getElem?_eq_getElem hi] at e1
    injection e1
  have HSX : Hid (∀ (X : World), Wlk X kb bb mb (.slice (some ⟨gv, 0, none⟩) V.length cv) ev V E → X.cell? ⟨kb, 0, none⟩ = some (.pointer (some ⟨bb, 0, none⟩)) ∧ X.cell? ⟨kb, 1, none⟩ = some (.slice (some ⟨gv, 0, none⟩) V.length cv) ∧ Hid (X.rangeAt gv (i * 26) row)) := fun X hX => by
    obtain ⟨gv', cv', hvv', hrg'⟩ := visit_at hX.v hi
    injection hvv' with e1
    injection e1 with e1
    injection e1 with e1
    subst e1
    rw [hVi] at hrg'
    exact ⟨(cell?_heap hX.k 0).trans rfl, (cell?_heap hX.k 1).trans rfl, fun j u hj => hrg' j u (HRW.out.2.2 j u hj)⟩
  have H : Hid (Wb w G B bb hb qb (.slice (some ⟨gt, 0, none⟩) B.n ct) a kb mb (.slice (some ⟨gv, 0, none⟩) V.length cv) ev V E) := h
  have i0 : (0 : Int) ≤ (i : Int) := Int.natCast_nonneg _
  have i1 : (i : Int) < (V.length : Int) := by omega
  clear h hv gs dc df de hst hrow hrl hVi
  go_enter Tryz.func46, Tryz.ntmps46
  go_wp2_with fail
  have k0 : Keeps (fun _ => False) w (w.alloc (.cells #[.slice none 0 0, .slice none 0 0] 51)) := (Keeps.refl _ _).alloc _
  have e0 : (w.alloc (.cells #[.slice none 0 0, .slice none 0 0] 51)).heap[w.heap.size]? = some (.cells #[.slice none 0 0, .slice none 0 0] 51) := heap_alloc_last _ _ _ rfl
  have H0 : Hid (Keeps (fun _ => False) w (w.alloc (.cells #[.slice none 0 0, .slice none 0 0] 51)) ∧ (w.alloc (.cells #[.slice none 0 0, .slice none 0 0] 51)).heap[w.heap.size]? = some (.cells #[.slice none 0 0, .slice none 0 0] 51)) := ⟨k0, e0⟩
  clear k0 e0
  generalize w.alloc (.cells #[.slice none 0 0, .slice none 0 0] 51) = w0 at *
  have HWD : Hid (Wb w0.drew G B bb hb qb (.slice (some ⟨gt, 0, none⟩) B.n ct) a kb mb (.slice (some ⟨gv, 0, none⟩) V.length cv) ev V E) := H.out.still H0.out.1.drew
  have sx := HSX.out w0.drew HWD.out.k
  (refine wp_region_held_drew (S := (fun X => X.cell? ⟨kb, 0, none⟩ = some (.pointer (some ⟨bb, 0, none⟩)) ∧ X.cell? ⟨kb, 1, none⟩ = some (.slice (some ⟨gv, 0, none⟩) V.length cv) ∧ Hid (X.rangeAt gv (i * 26) row))) (by kernel_rfl) sx (fun hHeld => ?_); simp only [List.size_toArray, List.length_cons, List.length_nil, Nat.reduceAdd, Array.replicate_succ, Array.replicate_zero, List.push_toArray, List.append_toArray, List.nil_append, List.cons_append])
  clear sx
  refine rgT 0 (h := ?_)
  refine rgT 1 (h := ?_)
  refine rgT 2 (h := ?_)
  refine rgT 3 (h := ?_)
  refine rgT 4 (h := ?_)
  refine rgT 5 (h := ?_)
  refine rgT 6 (h := ?_)
  refine rgT 7 (h := ?_)
  refine rgT 8 (h := ?_)
  refine rgT 9 (h := ?_)
  refine rgT 10 (h := ?_)
  refine rgL 11 179 (.tmp 17) gv (i * 26) row _ (hR := fun X hX => hX.2.2.out) (hu := uSt) (hi := HI.out) (h := ?_)
  (refine rgS 12 (h := fun K hK => ?_); go_simp)
  refine (HRES.out w0.drew a HWD.out.b HWD.out.c).mono ?_
  rintro e w1 ⟨rfl, b1, k1⟩
  have HW1 : Hid (Wb w1 G B bb hb qb (.slice (some ⟨gt, 0, none⟩) B.n ct) (a.1, decS v.1) kb mb (.slice (some ⟨gv, 0, none⟩) V.length cv) ev V E) := HWD.out.bench b1 HD.out.1 (k1.mono (fun y e => HWD.out.b.lo y e))
  have s1 := HSX.out w1 HW1.out.k
  have s2 := s1.1
  (refine hK.out _ _ s1 (fun hHeld => ?_); clear hK K; try simp only [Act.put, List.setIfInBounds_toArray, List.set_cons_zero, List.set_cons_succ])
  refine wpAnyH_done (by kernel_rfl) ?_ _
  clear hHeld s1
  clear hHeld
  have HK1 : Hid (Keeps G w0 w1) := ((Keeps.refl _ _).drew).trans (k1.mono (fun y e => HWD.out.b.lo y e))
  clear b1 k1
  go_wp2_with fail
  refine (boutE w1 G B hB bb hb qb _ (a.1, decS v.1) HW1.out.b hn4).mono ?_
  rintro e w2 ⟨g, rv, rfl, o1, o2, b2, k2, n2⟩
  have HW2 : Hid (Wb w2 G B bb hb qb (.slice (some ⟨gt, 0, none⟩) B.n ct) (a.1, decS v.1) kb mb (.slice (some ⟨gv, 0, none⟩) V.length cv) ev V E) := HW1.out.bench b2 HD.out.1 k2
  obtain ⟨ra, rc, hrv⟩ := o2.form
  subst hrv
  have HN2 : Hid (∀ x, (Value.slice ra (regsL (decS v.1).rg B.n).length rc).ownBlock = some x → x ≠ g) := n2
  clear n2
  have HO2 : Hid (OwW w2 w1.heap.size (.slice (some ⟨g, 0, none⟩) B.wd B.wd) (wlL (decS v.1).wo B.wd) ∧ OwW w2 w1.heap.size (.slice ra (regsL (decS v.1).rg B.n).length rc) (regsL (decS v.1).rg B.n)) := ⟨o1, o2⟩
  have HK2 : Hid (Keeps G w0 w2) := HK1.out.trans k2
  have hge : ¬ G w.heap.size := fun e => by have := H.out.b.gl _ e; omega
  have e2 : w2.heap[w.heap.size]? = some (.cells #[.slice none 0 0, .slice none 0 0] 51) := (HK2.out.block _ (Array.getElem?_eq_some_iff.1 H0.out.2).1 hge).trans H0.out.2
  have hz2 := (Array.getElem?_eq_some_iff.1 e2).1
  clear o1 o2 b2 k2 s2
  generalize (regsL (decS v.1).rg B.n).length = rn at *
  have e3 : (w2.alloc (.cells #[.slice (some ⟨g, 0, none⟩) B.wd B.wd, .slice ra rn rc] 51)).heap[w.heap.size]? = some (.cells #[.slice none 0 0, .slice none 0 0] 51) := (Below.heap_alloc _ _ _ hz2).trans e2
  have e4 : (w2.alloc (.cells #[.slice (some ⟨g, 0, none⟩) B.wd B.wd, .slice ra rn rc] 51)).heap[w2.heap.size]? = some (.cells #[.slice (some ⟨g, 0, none⟩) B.wd B.wd, .slice ra rn rc] 51) := heap_alloc_last _ _ _ rfl
  have HEE : Hid ((w2.alloc (.cells #[.slice (some ⟨g, 0, none⟩) B.wd B.wd, .slice ra rn rc] 51)).heap[w.heap.size]? = some (.cells #[.slice none 0 0, .slice none 0 0] 51) ∧ ¬ G w.heap.size ∧ w.heap.size < w2.heap.size) := ⟨e3, hge, hz2⟩
  generalize idleP a.1 = idl at *
  have g2 : w2.cell? ⟨w.heap.size, 0, none⟩ = some (.slice none 0 0) := (cell?_heap e2 0).trans rfl
  have g3 : w2.cell? ⟨w.heap.size, 1, none⟩ = some (.slice none 0 0) := (cell?_heap e2 1).trans rfl
  have g4 := frozen?_heap e2 0
  have g5 := frozen?_heap e2 1
  have HE2 : Hid (w2.heap[w.heap.size]? = some (.cells #[.slice none 0 0, .slice none 0 0] 51)) := e2
  clear e2 hge
  have c30 := (cell?_heap e3 0).trans rfl
  have c31 := (cell?_heap e3 1).trans rfl
  have f30 := frozen?_heap e3 0
  have f31 := frozen?_heap e3 1
  have c40 := (cell?_heap e4 0).trans rfl
  have c41 := (cell?_heap e4 1).trans rfl
  clear e3 e4
  go_wp2_with fail
  have k3 : Keeps (fun y => y = w.heap.size) w2 (((w2.setCell ⟨w.heap.size, 0, none⟩ (.slice (some ⟨g, 0, none⟩) B.wd B.wd)).setCell ⟨w.heap.size, 1, none⟩ (.slice ra rn rc)).alloc (.cells #[.slice (some ⟨g, 0, none⟩) B.wd B.wd, .slice ra rn rc] 51)) := (Keeps.setCell (B := fun y => y = w.heap.size) (Keeps.setCell (B := fun y => y = w.heap.size) (Keeps.refl _ _) rfl _) rfl _).alloc _
  have eW : (((w2.setCell ⟨w.heap.size, 0, none⟩ (.slice (some ⟨g, 0, none⟩) B.wd B.wd)).setCell ⟨w.heap.size, 1, none⟩ (.slice ra rn rc)).alloc (.cells #[.slice (some ⟨g, 0, none⟩) B.wd B.wd, .slice ra rn rc] 51)).heap[w.heap.size]? = some (.cells #[.slice (some ⟨g, 0, none⟩) B.wd B.wd, .slice ra rn rc] 51) := by
    have h1 := heapSet HE2.out (j := 0) (.slice (some ⟨g, 0, none⟩) B.wd B.wd)
    have h2 := heapSet h1 (j := 1) (.slice ra rn rc)
    exact (Below.heap_alloc _ _ _ (Array.getElem?_eq_some_iff.1 h2).1).trans h2
  have hrg : (((w2.setCell ⟨w.heap.size, 0, none⟩ (.slice (some ⟨g, 0, none⟩) B.wd B.wd)).setCell ⟨w.heap.size, 1, none⟩ (.slice ra rn rc)).alloc (.cells #[.slice (some ⟨g, 0, none⟩) B.wd B.wd, .slice ra rn rc] 51)).rangeAt w.heap.size 0 [(.slice (some ⟨g, 0, none⟩) B.wd B.wd), (.slice ra rn rc)] := fun j u hj => by
    rw [Nat.zero_add, cell?_heap eW j, List.getElem?_toArray]
    exact hj
  refine bodyPost_ret (results_cellM (p := 4) (ty := 51) rfl _ _ w.heap.size [(.slice (some ⟨g, 0, none⟩) B.wd B.wd), (.slice ra rn rc)] _ (by rfl) hrg Tryz.underlying51 rfl (by kernel_rfl)) rfl ⟨g, _, rfl, ?_⟩
  have z0 : w.heap.size ≤ w1.heap.size := by have := H0.out.1.size; have := HK1.out.size; omega
  have z1 : w.heap.size < w1.heap.size := by have := (Array.getElem?_eq_some_iff.1 H0.out.2).1; have := HK1.out.size; omega
  refine ⟨(owK HO2.out.1 k3 (fun y hy e => by have := (World.ownsRow.lt HO2.out.1 y hy).1; omega)).down z0, (owK HO2.out.2 k3 (fun y hy e => by have := (World.ownsRow.lt HO2.out.2 y hy).1; omega)).down z0, ⟨_, HW2.out.b.keeps k3 (fun y e hG => HEE.out.2.1 (by rw [← show y = w.heap.size from e]; exact hG)), HW2.out.k.keeps k3 (fun y e hy => by have := H.out.k.lt hy; have e : y = w.heap.size := e; omega), HW2.out.d, HW2.out.c⟩, ?_, HN2.out⟩
  refine ⟨k3.os.trans (HK2.out.os.trans H0.out.1.os), k3.tape.trans (HK2.out.tape.trans H0.out.1.tape), k3.output.trans (HK2.out.output.trans H0.out.1.output), Nat.le_trans H0.out.1.size (Nat.le_trans HK2.out.size k3.size), fun x hx hn => ?_⟩
  have hx0 : x < w0.heap.size := Nat.lt_of_lt_of_le hx H0.out.1.size
  have hx2 : x < w2.heap.size := Nat.lt_of_lt_of_le hx0 HK2.out.size
  exact (k3.block x hx2 (by show ¬ x = w.heap.size; omega)).trans ((HK2.out.block x hx0 hn).trans (H0.out.1.block x hx (fun e => e)))
end Go.Proofs.YtdpebhdjcgiboaaGreat

namespace Go.Proofs.YtdpebhdjcgiboaaGreat
open Go.ChangeShapes Go.WideShapes Go.ChangeAt Go.RowKit Go.MuLone Go.RwLone
set_option linter.unusedVariables false
set_option maxRecDepth 100000
set_option maxHeartbeats 6400000
/-- A comparison that is an order. -/
structure Cmp {α : Type} (c : α → α → Int) : Prop where
  r : ∀ x, c x x = 0
  f : ∀ x y, c y x = - c x y
  t : ∀ x y z, c x y ≤ 0 → c y z ≤ 0 → c x z ≤ 0
  e : ∀ x y, c x y = 0 → x = y
theorem cmU_ord : Cmp cmU := by
  refine ⟨fun x => ?_, fun x y => ?_, fun x y z h1 h2 => ?_, fun x y h => ?_⟩
  · unfold cmU; rw [if_neg (by omega), if_neg (by omega)]
  · unfold cmU; split <;> split <;> omega
  · unfold cmU at *
    split at h1 <;> split at h2 <;> split <;> (try split at h1) <;> (try split at h2) <;> (try split) <;> omega
  · unfold cmU at h; split at h
    · omega
    · split at h <;> omega
theorem cmL_r : ∀ x, cmL x x = 0
  | [] => rfl
  | x :: xs => by unfold cmL; rw [if_pos (cmU_ord.r x)]; exact cmL_r xs
theorem cmL_f : ∀ x y, cmL y x = - cmL x y
  | [], [] => rfl
  | [], _ :: _ => rfl
  | _ :: _, [] => rfl
  | x :: xs, y :: ys => by
    have h := cmU_ord.f x y
    unfold cmL
    by_cases h0 : cmU x y = 0
    · rw [if_pos (by omega), if_pos h0]; exact cmL_f xs ys
    · rw [if_neg (by omega), if_neg h0]; exact h
theorem cmL_t : ∀ x y z, cmL x y ≤ 0 → cmL y z ≤ 0 → cmL x z ≤ 0
  | [], _, [], _, _ => by simp [cmL]
  | [], _, _ :: _, _, _ => by simp [cmL]
  | x :: xs, [], z, h1, h2 => by simp [cmL] at h1
  | x :: xs, y :: ys, [], h1, h2 => by simp [cmL] at h2
  | x :: xs, y :: ys, z :: zs, h1, h2 => by
    unfold cmL at h1 h2 ⊢
    by_cases a : cmU x y = 0
    · have e := cmU_ord.e x y a
      subst e
      rw [if_pos a] at h1
      by_cases b : cmU x z = 0
      · rw [if_pos b] at h2 ⊢; exact cmL_t xs ys zs h1 h2
      · rw [if_neg b] at h2 ⊢; exact h2
    · rw [if_neg a] at h1
      by_cases b : cmU y z = 0
      · have e := cmU_ord.e y z b
        subst e
        rw [if_neg a]; exact h1
      · rw [if_neg b] at h2
        have h3 := cmU_ord.t x y z h1 h2
        by_cases c : cmU x z = 0
        · have e := cmU_ord.e x z c
          subst e
          have := cmU_ord.f x y
          omega
        · rw [if_neg c]; exact h3
theorem cmL_e : ∀ x y, cmL x y = 0 → x = y
  | [], [], _ => rfl
  | [], _ :: _, h => by simp [cmL] at h
  | _ :: _, [], h => by simp [cmL] at h
  | x :: xs, y :: ys, h => by
    unfold cmL at h
    by_cases a : cmU x y = 0
    · rw [if_pos a] at h
      rw [cmU_ord.e x y a, cmL_e xs ys h]
    · rw [if_neg a] at h; exact absurd h a
theorem cmO_ord : Cmp (fun (x y : List Int × List Int) => cmO x.1 x.2 y.1 y.2) := by
  refine ⟨fun x => ?_, fun x y => ?_, fun x y z h1 h2 => ?_, fun x y h => ?_⟩
  · unfold cmO orI; rw [cmL_r, if_pos rfl]; exact cmL_r _
  · unfold cmO orI
    have h := cmL_f x.1 y.1
    by_cases a : cmL x.1 y.1 = 0
    · rw [if_pos (by omega), if_pos a]; exact cmL_f _ _
    · rw [if_neg (by omega), if_neg a]; exact h
  · skip
    unfold cmO orI at *
    by_cases a : cmL x.1 y.1 = 0
    · have e := cmL_e _ _ a
      rw [if_pos a] at h1
      rw [e]
      by_cases b : cmL y.1 z.1 = 0
      · rw [if_pos b] at h2 ⊢; exact cmL_t _ _ _ h1 h2
      · rw [if_neg b] at h2 ⊢; exact h2
    · rw [if_neg a] at h1
      by_cases b : cmL y.1 z.1 = 0
      · have e := cmL_e _ _ b
        rw [← e, if_neg a]; exact h1
      · rw [if_neg b] at h2
        have h3 := cmL_t _ _ _ h1 h2
        by_cases c : cmL x.1 z.1 = 0
        · have e := cmL_e _ _ c
          rw [← e] at h2 b
          have := cmL_f x.1 y.1
          omega
        · rw [if_neg c]; exact h3
  · skip
    unfold cmO orI at h
    by_cases a : cmL x.1 y.1 = 0
    · rw [if_pos a] at h
      exact Prod.ext (cmL_e _ _ a) (cmL_e _ _ h)
    · rw [if_neg a] at h; exact absurd h a
/-- An outcome: its two slices, what they hold. -/
structure OuD where
  a1 : Option Addr
  c1 : Nat
  a2 : Option Addr
  c2 : Nat
  X : List Int
  Y : List Int
def ouC (x : OuD) : List Value := [.slice x.a1 x.X.length x.c1, .slice x.a2 x.Y.length x.c2]
theorem ouC_one (x : OuD) : ∀ u ∈ ouC x, u.oneCell' = true := by
  intro u hu
  simp [ouC] at hu
  rcases hu with rfl | rfl <;> rfl
structure OuW (w : World) (B : Nat) (x : OuD) : Prop where
  o1 : OwW w B (.slice x.a1 x.X.length x.c1) x.X
  o2 : OwW w B (.slice x.a2 x.Y.length x.c2) x.Y
  l1 : x.X.length ≤ 1000000
  l2 : x.Y.length ≤ 1000000
theorem OuW.keeps {w w' : World} {B : Nat} {x : OuD} {D : Nat → Prop} (h : OuW w B x) (k : Keeps D w w') (hn : ∀ g cur, w.heap[g]? = some (.cells cur 55) → B ≤ g → ¬ D g) : OuW w' B x := by
  refine ⟨owK h.o1 k (fun g hg => ?_), owK h.o2 k (fun g hg => ?_), h.l1, h.l2⟩
  · obtain ⟨cur, e⟩ := blk h.o1 hg
    exact hn g cur e (World.ownsRow.lt h.o1 g hg).1
  · obtain ⟨cur, e⟩ := blk h.o2 hg
    exact hn g cur e (World.ownsRow.lt h.o2 g hg).1
/-- A world with draws and new blocks alone behind. -/
theorem grown_of {w w' : World} (k : Keeps (fun _ => False) w w') (hd : w.drawn ≤ w'.drawn) : ∃ q os', w' = Go.Sort.grow (w.drewN q) os' := by
  refine ⟨w'.drawn - w.drawn, w'.heap.extract w.heap.size w'.heap.size, ?_⟩
  have hh : w'.heap = w.heap ++ w'.heap.extract w.heap.size w'.heap.size := by
    apply Array.ext_getElem?
    intro i
    by_cases hi : i < w.heap.size
    · rw [Array.getElem?_append_left hi]; exact k.block i hi (fun e => e)
    · rw [Array.getElem?_append_right (by omega), Array.getElem?_extract]
      have := k.size
      by_cases h2 : i < w'.heap.size
      · rw [if_pos (by omega)]
        congr 1
        omega
      · rw [if_neg (by omega)]
        exact Array.getElem?_eq_none (by omega)
  obtain ⟨h1, t1, d1, o1, p1⟩ := w'
  obtain ⟨h2, t2, d2, o2, p2⟩ := w
  have e1 : o1 = o2 := k.os
  have e2 : t1 = t2 := k.tape
  have e3 : p1 = p2 := k.output
  subst e1 e2 e3
  have e4 : d2 + (d1 - d2) = d1 := by have : d2 ≤ d1 := hd; omega
  unfold Go.Sort.grow World.drewN
  dsimp only at hh ⊢
  rw [e4, ← hh]
theorem sortW_keeps {α : Type} [Inhabited α] (cs : α → List Value) (k : Nat) (w : World) (g off m : Nat) (d : Array α) (os : Array Obj) : Keeps (fun y => y = g) w (Go.Proofs.sortWorldK cs k w g off m d os) := by
  have h := putRowK_keeps cs k w m g off d
  unfold Go.Proofs.sortWorldK
  refine ⟨h.os, h.tape, h.output, ?_, fun x hx hn => ?_⟩
  · show _ ≤ (_ ++ os).size
    rw [Array.size_append]
    have := h.size
    omega
  · show ((Go.Sort.putRowK cs k (Go.Sort.ahead w m) g off d).heap ++ os)[x]? = _
    rw [Array.getElem?_append_left (by have := h.size; omega)]
    exact h.block x hx hn
end Go.Proofs.YtdpebhdjcgiboaaGreat

namespace Go.Proofs.YtdpebhdjcgiboaaGreat
open Go.ChangeShapes Go.WideShapes Go.ChangeAt Go.RowKit Go.MuLone Go.RwLone
set_option linter.unusedVariables false
set_option maxRecDepth 100000
set_option maxHeartbeats 6400000
theorem holdsK_in {α : Type} [Inhabited α] {cs : α → List Value} {k : Nat} (hk : ∀ x, (cs x).length = k) (k0 : 0 < k) {w : World} {g C cap : Nat} {d : Array α} (h : Go.Sort.HoldsK cs k w g 0 d) (hg : g < C) (hc : d.size ≤ cap) : InG cs w C (.slice (some ⟨g, 0, none⟩) d.toList.length cap) d.toList := by
  refine ⟨some ⟨g, 0, none⟩, cap, rfl, by simpa using hc, (fun e => by cases e), fun j u hj => ⟨g, 0, rfl, hg, ?_⟩⟩
  have hl := (List.getElem?_eq_some_iff.1 hj).1
  rw [flat_len cs k hk] at hl
  have hl2 : j < d.size * k := by simpa using hl
  have hq : j / k < d.toList.length := Nat.div_lt_of_lt_mul (by rw [Nat.mul_comm]; exact hl)
  have hm : j % k < k := Nat.mod_lt _ k0
  have h1 := (h j (by rw [Go.Sort.size_flatK]; exact hl2)).1
  rw [h1, Go.Sort.get_flatK _ _ _ _ hl2]
  have := flat_get cs k hk d.toList (j / k) hq (j % k) hm
  rw [Nat.div_add_mod'] at this
  rw [this] at hj
  rw [← hj, List.getElem?_eq_getElem (by rw [hk]; exact hm)]
  congr 1
  rw [getElem!_pos d (j / k) (by simpa using hq), getElem!_pos _ _ (by rw [hk]; exact hm)]
  simp
theorem sortW_block {α : Type} [Inhabited α] (cs : α → List Value) (k : Nat) (w : World) (g m : Nat) (d : Array α) (os : Array Obj) (e : TypeId) (cur : Array Value) (hg : w.heap[g]? = some (.cells cur e (0, 0))) : ∃ cur', (Go.Proofs.sortWorldK cs k w g 0 m d os).heap[g]? = some (.cells cur' e (0, 0)) ∧ cur'.size = cur.size := by
  have hs := (putRowK_keeps cs k w m g 0 d).size
  have hl := (Array.getElem?_eq_some_iff.1 hg).1
  unfold Go.Proofs.sortWorldK
  refine ⟨Go.Sort.putCells id 0 (Go.Sort.flatK cs k d) cur, ?_, by simp [Go.Sort.putCells]⟩
  show ((Go.Sort.putRowK cs k (Go.Sort.ahead w m) g 0 d).heap ++ os)[g]? = _
  rw [Array.getElem?_append_left (by omega)]
  unfold Go.Sort.putRowK Go.Sort.putRow Go.Sort.mapBlock
  show (w.heap.modify g _)[g]? = _
  rw [Array.getElem?_modify, if_pos rfl, hg]
  rfl
theorem own_of_in {α : Type} {cs : α → List Value} {n : Nat} (hn : ∀ x, (cs x).length = n) {w : World} {B C g m cap : Nat} {e : TypeId} {cur : Array Value} {ys : List α} (hin : InG cs w C (.slice (some ⟨g, 0, none⟩) m cap) ys) (hb : w.heap[g]? = some (.cells cur e (0, 0))) (hB : B ≤ g) (hcap : cap ≤ maxLen) (hsz : cur.size = cap * n) : OwG cs e n w B (.slice (some ⟨g, 0, none⟩) m cap) ys := by
  obtain ⟨ao, cap', e1, h1, h2, h3⟩ := hin
  injection e1 with e1 e2 e3
  subst e1 e2 e3
  refine ⟨flat_len cs n hn ys, .inr ⟨g, cap, cur, rfl, hB, hb, h1, hcap, hsz, ?_⟩⟩
  apply List.ext_getElem?
  intro j
  have hlen := flat_len cs n hn ys
  have hle : ys.length * n ≤ cap * n := Nat.mul_le_mul_right _ h1
  rcases Nat.lt_or_ge j (ys.length * n) with hj | hj
  · rw [List.getElem?_take_of_lt hj]
    obtain ⟨u, hu⟩ : ∃ u, (ys.flatMap cs)[j]? = some u := ⟨_, List.getElem?_eq_getElem (by omega)⟩
    obtain ⟨b, off, e4, _, e5⟩ := h3 j u hu
    injection e4 with e4
    injection e4 with e6 e7
    subst e6 e7
    rw [hu, ← e5, Nat.zero_add, cell?_heap hb j]
    simp
  · rw [List.getElem?_eq_none (by rw [List.length_take]; omega), List.getElem?_eq_none (by omega)]
theorem sort_any (w : World) (M g cap : Nat) (xs : List OuD) (h : OwG ouC 51 2 w M (.slice (some ⟨g, 0, none⟩) xs.length cap) xs) (hx : ∀ x ∈ xs, OuW w M x) (hne : xs ≠ []) (hl : xs.length ≤ 6103515625) :
    Calls Tryz.prog 55 #[.slice (some ⟨g, 0, none⟩) xs.length cap, .func (.func 45) #[] #[]] w fun e w' => e = .returned (.tuple #[]) ∧ ∃ ys : List OuD, ys.Perm xs ∧ InG ouC w' w'.heap.size (.slice (some ⟨g, 0, none⟩) xs.length cap) ys ∧ (∀ y ∈ ys, OuW w' M y) ∧ Keeps (fun y => M ≤ y) w w' ∧ ys.Pairwise (fun a b => 0 ≤ cmO b.X b.Y a.X a.Y) ∧ OwG ouC 51 2 w' M (.slice (some ⟨g, 0, none⟩) xs.length cap) ys := by
  obtain ⟨_, hcap, _, hB, cur, hg⟩ := owG_cap h
  obtain ⟨x0, hx0⟩ := List.exists_mem_of_ne_nil xs hne
  haveI : Inhabited {x : OuD // OuW w M x} := ⟨⟨x0, hx x0 hx0⟩⟩
  let enc : {x : OuD // OuW w M x} → List Value := fun x => ouC x.1
  let cf : {x : OuD // OuW w M x} → {x : OuD // OuW w M x} → Int := fun x y => cmO x.1.X x.1.Y y.1.X y.1.Y
  obtain ⟨xs', e1⟩ : ∃ xs' : List {x : OuD // OuW w M x}, xs'.map (·.1) = xs := ⟨xs.attach.map (fun p => ⟨p.1, hx p.1 p.2⟩), by
    rw [List.map_map]
    exact List.attach_map_subtype_val xs⟩
  have e2 : xs'.length = xs.length := by rw [← e1, List.length_map]
  have e3 : xs'.flatMap enc = xs.flatMap ouC := by rw [← e1, List.flatMap_map]
  have ho : OwG enc 51 2 w M (.slice (some ⟨g, 0, none⟩) xs'.length cap) xs' := by
    unfold OwG at h ⊢
    rw [e2, e3]
    exact h
  have hH := row_holdsK ho (fun _ => rfl) (by decide)
  have hO : Go.Sort.SWO (ltOf cf) := by
    have ord := cmO_ord
    refine ⟨fun x => ?_, fun x y z a b => ?_, fun x y z a b => ?_⟩
    · have : cf x x = 0 := ord.r (x.1.X, x.1.Y)
      unfold ltOf
      rw [this]
      rfl
    · unfold ltOf at *
      have a := of_decide_eq_true a
      have b := of_decide_eq_true b
      apply decide_eq_true
      have c := ord.t (x.1.X, x.1.Y) (y.1.X, y.1.Y) (z.1.X, z.1.Y) (Int.le_of_lt a) (Int.le_of_lt b)
      rcases Int.lt_or_eq_of_le c with c | c
      · exact c
      · exfalso
        have e := ord.e (x.1.X, x.1.Y) (z.1.X, z.1.Y) c
        have f := ord.f (x.1.X, x.1.Y) (y.1.X, y.1.Y)
        have b' : cmO y.1.X y.1.Y z.1.X z.1.Y < 0 := b
        have a' : cmO x.1.X x.1.Y y.1.X y.1.Y < 0 := a
        injection e with e5 e6
        rw [← e5, ← e6] at b'
        dsimp only at f
        omega
    · unfold ltOf at *
      have a := of_decide_eq_false a
      have b := of_decide_eq_false b
      apply decide_eq_false
      have a' : ¬ cmO x.1.X x.1.Y y.1.X y.1.Y < 0 := a
      have b' : ¬ cmO y.1.X y.1.Y z.1.X z.1.Y < 0 := b
      have f1 := ord.f (x.1.X, x.1.Y) (y.1.X, y.1.Y)
      have f2 := ord.f (y.1.X, y.1.Y) (z.1.X, z.1.Y)
      have f3 := ord.f (x.1.X, x.1.Y) (z.1.X, z.1.Y)
      dsimp only at f1 f2 f3
      have c := ord.t (z.1.X, z.1.Y) (y.1.X, y.1.Y) (x.1.X, x.1.Y) (by dsimp only; omega) (by dsimp only; omega)
      dsimp only at c
      show ¬ cmO x.1.X x.1.Y z.1.X z.1.Y < 0
      omega
  have hne2 : ∀ (g' : Nat) cur', w.heap[g']? = some (.cells cur' 55) → M ≤ g' → ¬ g' = g := fun g' cur' e' _ e => by
    subst e
    rw [e'] at hg
    injection hg with hg
    injection hg with _ h2 _
    exact absurd h2 (by decide)
  have hcmp : CmpLays Tryz.prog 45 #[] enc 2 cf g 0 xs'.toArray.size w := fun m os dk hs x y => by
    have kk := sortW_keeps enc 2 w g 0 m dk os
    have hx' := x.2.keeps kk (fun g' c' e' hb' => hne2 g' c' e' hb')
    have hy' := y.2.keeps kk (fun g' c' e' hb' => hne2 g' c' e' hb')
    have := compare_any (sortWorldK enc 2 w g 0 m dk os) _ (Nat.le_refl _) x.1.a1 x.1.a2 y.1.a1 y.1.a2 x.1.c1 x.1.c2 y.1.c1 y.1.c2 x.1.X x.1.Y y.1.X y.1.Y hx'.o1.in hx'.o2.in hy'.o1.in hy'.o2.in x.2.l1 x.2.l2
    refine this.mono ?_
    rintro e w' ⟨rfl, k', hd⟩
    exact ⟨rfl, grown_of k' hd⟩
  have eg : ∀ args w, (callFunc 45 args).run Tryz.prog w = .ok (.enter 45 args) w := enters_of Tryz.func45 (by kernel_rfl) rfl
  have hS := AnyQ.slices_SortFunc sortOut 2 Tryz.isAgg51 Tryz.sizeOf51 enc (fun _ => rfl) (fun x => ouC_one x.1) cf hO 45 #[] g 0 cap xs'.toArray w eg hcmp hH (Array.getElem?_eq_some_iff.1 hg).1 (by simp only [List.size_toArray, e2]; omega)
  rw [List.size_toArray, e2] at hS
  refine hS.mono ?_
  rintro e w' ⟨rfl, d', n, os, hp, hsd, rfl⟩
  have kk := sortW_keeps enc 2 w g 0 n d' os
  have hsz : d'.size = xs.length := by rw [hp.1, List.size_toArray, e2]
  have hH' : Go.Sort.HoldsK enc 2 (sortWorldK enc 2 w g 0 n d' os) g 0 d' := holdsK_sortWorldK_c enc 2 w g 0 xs'.toArray d' n os hH (Array.getElem?_eq_some_iff.1 hg).1 hp.1
  have hin := holdsK_in (cs := enc) (k := 2) (cap := cap) (C := (sortWorldK enc 2 w g 0 n d' os).heap.size) (fun _ => rfl) (by decide) hH' (Nat.lt_of_lt_of_le (Array.getElem?_eq_some_iff.1 hg).1 kk.size) (by omega)
  have hperm : (d'.toList.map (·.1)).Perm xs := by
    have h3 := hp.2.2
    rw [Array.extract_eq_self_of_le (by omega), Array.extract_eq_self_of_le (by simp [e2])] at h3
    have h4 := h3.map (·.1)
    rw [show xs'.toArray.toList = xs' by simp, e1] at h4
    exact h4
  have hin2 : InG ouC (sortWorldK enc 2 w g 0 n d' os) (sortWorldK enc 2 w g 0 n d' os).heap.size (.slice (some ⟨g, 0, none⟩) xs.length cap) (d'.toList.map (·.1)) := by
    obtain ⟨ao, cp, e5, e6, e7, e8⟩ := hin
    refine ⟨ao, cp, ?_, by simpa using e6, e7, fun j u hj => e8 j u ?_⟩
    · rw [List.length_map, ← e5]
      have : d'.toList.length = xs.length := by rw [Array.length_toList]; exact hsz
      rw [this]
    · rw [List.flatMap_map] at hj
      exact hj
  have how2 : OwG ouC 51 2 (sortWorldK enc 2 w g 0 n d' os) M (.slice (some ⟨g, 0, none⟩) xs.length cap) (d'.toList.map (·.1)) := by
    rcases h.2 with ⟨e5, _⟩ | ⟨g', cap', cur', e5, _, hg', _, hcm, hcs, _⟩
    · cases e5
    · injection e5 with e5 _ e7
      injection e5 with e5
      injection e5 with e5 _ _
      subst e5 e7
      obtain ⟨cur2, hb2, hs2⟩ := sortW_block enc 2 w g n d' os 51 cur' hg'
      exact own_of_in (n := 2) (fun _ => rfl) hin2 hb2 hB hcm (hs2.trans hcs)
  refine ⟨rfl, d'.toList.map (·.1), hperm, hin2, fun y hy => ?_, kk.mono (fun y e => by rw [show y = g from e]; exact hB), ?_, how2⟩
  · obtain ⟨z, _, rfl⟩ := List.mem_map.1 hy
    exact z.2.keeps kk (fun g' c' e' hb' => hne2 g' c' e' hb')
  · rw [List.pairwise_map, List.pairwise_iff_getElem]
    intro i j hi hj hij
    have h5 := hsd i j (Nat.zero_le _) hij (by rw [← hsz]; simpa using hj)
    unfold ltOf at h5
    have h6 := of_decide_eq_false h5
    rw [getElem!_pos d' j (by simpa using hj), getElem!_pos d' i (by simpa using hi)] at h6
    have h7 : ¬ cmO d'[j].1.X d'[j].1.Y d'[i].1.X d'[i].1.Y < 0 := h6
    simp only [Array.getElem_toList]
    omega
end Go.Proofs.YtdpebhdjcgiboaaGreat
