import Derived.Test.YtdpebhdjcgiboaaGreatKSoI
import Derived.Test.YtdpebhdjcgiboaaGreatKSoS
namespace Go.Proofs.YtdpebhdjcgiboaaGreat
open Go.ChangeShapes Go.WideShapes Go.ChangeAt Go.RowKit Go.MuLone Go.RwLone
set_option linter.unusedVariables false
set_option maxRecDepth 100000
set_option maxHeartbeats 6400000
theorem row_holdsK {α : Type} [Inhabited α] {cs : α → List Value} {e : TypeId} {k : Nat} {w : World} {B g n cap : Nat} {xs : List α} (h : OwG cs e k w B (.slice (some ⟨g, 0, none⟩) n cap) xs) (hk : ∀ x, (cs x).length = k) (k0 : 0 < k) : Go.Sort.HoldsK cs k w g 0 xs.toArray := by
  obtain ⟨hn, _, _, _, cur, hg⟩ := owG_cap h
  subst hn
  intro t ht
  have ht2 : t < xs.toArray.size * k := by rw [Go.Sort.size_flatK] at ht; exact ht
  have ht' : t < xs.length * k := by simpa using ht2
  have hq : t / k < xs.length := Nat.div_lt_of_lt_mul (by rw [Nat.mul_comm]; exact ht')
  have hm : t % k < k := Nat.mod_lt _ k0
  refine ⟨?_, ?_⟩
  · rw [Nat.zero_add, World.ownsRow.cellAt h t ht']
    have := flat_get cs k hk xs (t / k) hq (t % k) hm
    rw [Nat.div_add_mod'] at this
    rw [this, Go.Sort.get_flatK _ _ _ _ ht2, List.getElem?_eq_getElem (by rw [hk]; exact hm)]
    congr 1
    rw [getElem!_pos xs.toArray (t / k) (by simpa using hq), getElem!_pos _ _ (by rw [hk]; exact hm)]
    simp
  · exact frozen?_heap hg _
theorem putRowK_keeps {α : Type} [Inhabited α] (cs : α → List Value) (k : Nat) (w : World) (n g off : Nat) (d : Array α) : Keeps (fun y => y = g) w (Go.Sort.putRowK cs k (Go.Sort.ahead w n) g off d) := by
  refine ⟨rfl, rfl, rfl, ?_, fun x hx hn => ?_⟩
  · unfold Go.Sort.putRowK
    rw [Go.Sort.size_putRow]
    exact Nat.le_refl _
  · unfold Go.Sort.putRowK Go.Sort.putRow Go.Sort.mapBlock
    show (w.heap.modify g _)[x]? = _
    rw [Array.getElem?_modify, if_neg (fun e => hn e.symm)]
theorem holdsK_sees {w : World} {g C cap : Nat} {vs : List (Int × Int × Int)} (h : Go.Sort.HoldsK pkC 3 w g 0 vs.toArray) (hg : g < C) (hc : vs.length ≤ cap) (hl : vs.length ≤ 140737488355328) : SeesP w C (.slice (some ⟨g, 0, none⟩) vs.length cap) vs := by
  refine ⟨_, cap, rfl, hc, hl, fun i hi => ⟨g, 0, rfl, hg, ?_⟩⟩
  have hi' : i < vs.toArray.size := by simpa using hi
  have c0 := (h.cell hi' (show 0 < 3 by decide)).1
  have c1 := (h.cell hi' (show 1 < 3 by decide)).1
  have c2 := (h.cell hi' (show 2 < 3 by decide)).1
  rw [getElem!_pos vs.toArray i hi'] at c0 c1 c2
  exact ⟨c0, c1, c2⟩
theorem path_fuel {T : Ts (List Int)} {s0 : List Int} {V : List (Vi (List Int))} {i j : Nat} (h : Vo T s0 V i j) : ∀ (g g' k : Nat), k ≤ g → k ≤ g' → pathP V g k = pathP V g' k
  | 0, 0, k, h1, h2 => rfl
  | 0, g' + 1, k, h1, h2 => by
    obtain rfl : k = 0 := by omega
    rfl
  | g + 1, 0, k, h1, h2 => by
    obtain rfl : k = 0 := by omega
    rfl
  | g + 1, g' + 1, 0, h1, h2 => rfl
  | g + 1, g' + 1, k + 1, h1, h2 => by
    unfold pathP
    cases hk : V[k + 1]? with
    | none => rfl
    | some v =>
      obtain ⟨p, _, hf, _⟩ := h.f (k + 1) v hk (by omega)
      dsimp only
      rw [path_fuel h g g' v.2.1 (by omega) (by omega)]
theorem path_step {T : Ts (List Int)} {s0 : List Int} {V : List (Vi (List Int))} {i j : Nat} (h : Vo T s0 V i j) {m : Nat} {v : Vi (List Int)} (hv : V[m]? = some v) (hm : 0 < m) : pathP V V.length m = pathP V V.length v.2.1 ++ [v.2.2] := by
  obtain ⟨p, _, hf, _⟩ := h.f m v hv hm
  have hl := (List.getElem?_eq_some_iff.1 hv).1
  obtain ⟨m, rfl⟩ : ∃ m', m = m' + 1 := ⟨m - 1, by omega⟩
  obtain ⟨n, hn⟩ : ∃ n, V.length = n + 1 := ⟨V.length - 1, by omega⟩
  rw [hn, path_fuel h (n + 1) n v.2.1 (by omega) (by omega)]
  conv => lhs; unfold pathP
  rw [hv]
/-- slices.Reverse of a row of picks of one's own. -/
theorem reverse_any (w : World) (B : Nat) (v : Value) (vs : List (Int × Int × Int)) (h : OwG pkC 110 3 w B v vs) (hl : vs.length ≤ 1000000) :
    Calls Tryz.prog 93 #[v] w fun e w' => e = .returned (.tuple #[]) ∧ SeesP w' w'.heap.size v vs.reverse ∧ Keeps (fun y => B ≤ y) w w' := by
  by_cases hv : vs = []
  · subst hv
    obtain ⟨a, cap, rfl⟩ := h.form
    refine (AnyQ.slices_Reverse_empty revPick a cap w).mono ?_
    rintro e w' ⟨rfl, rfl⟩
    exact ⟨rfl, ⟨a, cap, rfl, Nat.zero_le _, Nat.zero_le _, fun i hi => by simp at hi⟩, Keeps.refl _ _⟩
  · obtain ⟨g, cap, rfl, hB, hg⟩ := owG_some h hv
    obtain ⟨_, hcap, _⟩ := owG_cap h
    have hh := row_holdsK h (fun _ => rfl) (by decide)
    have := AnyQ.slices_Reverse revPick 3 Tryz.isAgg110 Tryz.sizeOf110 pkC (fun _ => rfl) pkC_one g 0 cap vs.toArray w hh (by simp; omega)
    rw [List.size_toArray] at this
    refine this.mono ?_
    rintro e w' ⟨rfl, n, rfl⟩
    have kk := putRowK_keeps pkC 3 w n g 0 vs.toArray.reverse
    refine ⟨rfl, ?_, kk.mono (fun y e => by rw [show y = g from e]; exact hB)⟩
    have h2 : Go.Sort.HoldsK pkC 3 (Go.Sort.putRowK pkC 3 (Go.Sort.ahead w n) g 0 vs.toArray.reverse) g 0 vs.toArray.reverse := Go.Sort.holdsK_putRowK pkC 3 _ g 0 vs.toArray _ (Go.Sort.holdsK_ahead pkC 3 w n g 0 vs.toArray hh) (by simp)
    rw [List.reverse_toArray] at h2 ⊢
    have h3 := holdsK_sees (C := (Go.Sort.putRowK pkC 3 (Go.Sort.ahead w n) g 0 vs.reverse.toArray).heap.size) (cap := cap) h2 (by rw [List.reverse_toArray] at kk; exact Nat.lt_of_lt_of_le hg kk.size) (by simp; omega) (by simp; omega)
    rw [List.length_reverse] at h3
    exact h3
end Go.Proofs.YtdpebhdjcgiboaaGreat

namespace Go.Proofs.YtdpebhdjcgiboaaGreat
set_option linter.unusedSimpArgs false
open Go.ChangeShapes Go.WideShapes Go.ChangeAt Go.RowKit Go.MuLone Go.RwLone
set_option linter.unusedVariables false
set_option maxRecDepth 100000
set_option maxHeartbeats 6400000
/-- An outcome told, in blocks of its own. -/
def Told (w w' : World) (G : Nat → Prop) (B : Bd) (bb hb qb : Nat) (tv : Value) (kb mb : Nat) (vv ev : Value) (V : List (Vi (List Int))) (E : List Nat) (v : Vi (List Int)) (g : Nat) (rv : Value) : Prop :=
  OwW w' w.heap.size (.slice (some ⟨g, 0, none⟩) B.wd B.wd) (wlL (decS v.1).wo B.wd) ∧ OwW w' w.heap.size rv (regsL (decS v.1).rg B.n) ∧ (∃ a', Wb w' G B bb hb qb tv a' kb mb vv ev V E) ∧ Keeps G w w' ∧ ∀ x, rv.ownBlock = some x → x ≠ g
theorem boutE (w : World) (G : Nat → Prop) (B : Bd) (hB : BdOk B) (bb hb qb : Nat) (tv : Value) (a : Hp × Ls) (b : BnF w G B bb hb qb tv a) (hn4 : 1 ≤ B.n ∧ B.n ≤ 4) :
    Calls Tryz.prog 80 #[.pointer (some ⟨bb, 0, none⟩)] w fun e w' => ∃ g rv, e = .returned (.tuple #[.agg #[.slice (some ⟨g, 0, none⟩) B.wd B.wd, rv], .bool (idleP a.1)]) ∧ OwW w' w.heap.size (.slice (some ⟨g, 0, none⟩) B.wd B.wd) (wlL a.2.wo B.wd) ∧ OwW w' w.heap.size rv (regsL a.2.rg B.n) ∧ BnF w' G B bb hb qb tv a ∧ Keeps G w w' ∧ ∀ x, rv.ownBlock = some x → x ≠ g := by
  refine (outcomeG _ w B hB bb hb qb tv a b.g hn4).mono ?_
  rintro e w' ⟨g, rv, he, o1, o2, k, ho⟩
  have hg := (World.ownsRow.lt o1 g rfl).1
  obtain ⟨F, qv, ev, en, m, d, l, nb, nt⟩ := b.h
  have lb := (Array.getElem?_eq_some_iff.1 b.be).1
  exact ⟨g, rv, he, o1, o2.down (by omega), ⟨⟨F, qv, ev, en, m.keeps k (fun x hx hF => d x hF (.inl hx)), d, l, nb, nt⟩, ho, b.lo, b.iv, (k.block bb lb (fun e => b.nb (.inl e))).trans b.be, owK b.ot k (fun g hg e => b.nt g hg (.inl e)), b.nb, b.nt, b.gb, b.gt, fun y hy => Nat.lt_of_lt_of_le (b.gl y hy) k.size⟩, k.mono (fun y e => b.lo y (.inl e)), fun x hx e => by have := (World.ownsRow.lt o2 x hx).1; omega⟩
theorem outcome_any (w : World) (G : Nat → Prop) (B : Bd) (hB : BdOk B) (bb hb qb : Nat) (tv : Value) (a : Hp × Ls) (kb mb : Nat) (vv ev : Value) (V : List (Vi (List Int))) (E : List Nat) (h : Wb w G B bb hb qb tv a kb mb vv ev V E) (hn4 : 1 ≤ B.n ∧ B.n ≤ 4) (hw4 : 1 ≤ B.wd ∧ B.wd ≤ 4) (i : Nat) (v : Vi (List Int)) (hv : V[i]? = some v) (gs : Gs B.wd B.n v.1) (hl : V.length ≤ 6103515625) :
    Calls Tryz.prog 46 #[.pointer (some ⟨kb, 0, none⟩), .int .i64 (i : Int)] w fun e w' => ∃ g rv, e = .returned (.agg #[.slice (some ⟨g, 0, none⟩) B.wd B.wd, rv]) ∧ Told w w' G B bb hb qb tv kb mb vv ev V E v g rv := by
  obtain ⟨gt, ct, htv, -, -⟩ := owG_some h.b.ot (by intro e; have := congrArg List.length e; simp at this; omega)
  rw [List.length_map, List.length_range] at htv
  subst htv
  have hi := (List.getElem?_eq_some_iff.1 hv).1
  obtain ⟨dc, df, de⟩ := gs.dec hw4.2 hn4.2
  have hst : IsSt v.1 := gs.st
  obtain ⟨row, hrow⟩ : ∃ row, rowU v.1 = row := ⟨_, rfl⟩
  have hrl : row.length = 24 := by rw [← hrow]; simp [rowU, hst.l]
  have HRW : Hid (rowU v.1 = row ∧ row.length = 24 ∧ ∀ (j : Nat) (u : Value), row[j]? = some u → (viC v)[j]? = some u) := ⟨hrow, hrl, fun j u hj => by
    rw [viC_row hst.l, hrow, List.getElem?_append_left (List.getElem?_eq_some_iff.1 hj).1]; exact hj⟩
  have HI : Hid ((Tryz.prog.info? 179).map (·.size) = some row.length) := by rw [hrl]; exact iSt
  have HD : Hid (Can B.wd B.n (decS v.1) ∧ Fit B.wd (decS v.1) ∧ encS (decS v.1) = v.1) := ⟨dc, df, de⟩
  have HRES : Hid (∀ (X : World) (a' : Hp × Ls), BnF X G B bb hb qb (.slice (some ⟨gt, 0, none⟩) B.n ct) a' → Can B.wd B.n a'.2 → Calls Tryz.prog 90 #[.pointer (some ⟨bb, 0, none⟩), .agg row.toArray] X fun e w' => e = .returned (.tuple #[]) ∧ BnF w' G B bb hb qb (.slice (some ⟨gt, 0, none⟩) B.n ct) (a'.1, decS v.1) ∧ Keeps (fB B) X w') := fun X a' b' c' => by
    have := restore_any X G B hB bb hb qb _ a' b' hn4 hw4 c' (decS v.1) dc df.w (fun i hi => df.p i)
    rw [de, hrow] at this
    exact this
  obtain ⟨gv, cv, hvv, -⟩ := visit_at h.k.v hi
  subst hvv
  have hVi : V[i] = v := by
    have e1 := hv
    rw [List.getElem?_eq_getElem hi] at e1
    injection e1
  have HSX : Hid (∀ (X : World), Wlk X kb bb mb (.slice (some ⟨gv, 0, none⟩) V.length cv) ev V E → X.cell? ⟨kb, 0, none⟩ = some (.pointer (some ⟨bb, 0, none⟩)) ∧ X.cell? ⟨kb, 1, none⟩ = some (.slice (some ⟨gv, 0, none⟩) V.length cv) ∧ Hid (X.rangeAt gv (i * 26) row)) := fun X hX => by
    obtain ⟨gv', cv', hvv', hrg'⟩ := visit_at hX.v hi
    injection hvv' with e1
    injection e1 with e1
    injection e1 with e1
    subst e1
    rw [hVi] at hrg'
    exact ⟨(cell?_heap hX.k 0).trans rfl, (cell?_heap hX.k 1).trans rfl, fun j u hj => hrg' j u (HRW.out.2.2 j u hj)⟩
  have H : Hid (Wb w G B bb hb qb (.slice (some ⟨gt, 0, none⟩) B.n ct) a kb mb (.slice (some ⟨gv, 0, none⟩) V.length cv) ev V E) := h
  have i0 : (0 : Int) ≤ (i : Int) := Int.natCast_nonneg _
  have i1 : (i : Int) < (V.length : Int) := by omega
  clear h hv gs dc df de hst hrow hrl hVi
  go_enter Tryz.func46, Tryz.ntmps46
  go_wp2_with fail
  have k0 : Keeps (fun _ => False) w (w.alloc (.cells #[.slice none 0 0, .slice none 0 0] 51)) := (Keeps.refl _ _).alloc _
  have e0 : (w.alloc (.cells #[.slice none 0 0, .slice none 0 0] 51)).heap[w.heap.size]? = some (.cells #[.slice none 0 0, .slice none 0 0] 51) := heap_alloc_last _ _ _ rfl
  have H0 : Hid (Keeps (fun _ => False) w (w.alloc (.cells #[.slice none 0 0, .slice none 0 0] 51)) ∧ (w.alloc (.cells #[.slice none 0 0, .slice none 0 0] 51)).heap[w.heap.size]? = some (.cells #[.slice none 0 0, .slice none 0 0] 51)) := ⟨k0, e0⟩
  clear k0 e0
  generalize w.alloc (.cells #[.slice none 0 0, .slice none 0 0] 51) = w0 at *
  have HWD : Hid (Wb w0.drew G B bb hb qb (.slice (some ⟨gt, 0, none⟩) B.n ct) a kb mb (.slice (some ⟨gv, 0, none⟩) V.length cv) ev V E) := H.out.still H0.out.1.drew
  have sx := HSX.out w0.drew HWD.out.k
  (refine wp_region_held_drew (S := (fun X => X.cell? ⟨kb, 0, none⟩ = some (.pointer (some ⟨bb, 0, none⟩)) ∧ X.cell? ⟨kb, 1, none⟩ = some (.slice (some ⟨gv, 0, none⟩) V.length cv) ∧ Hid (X.rangeAt gv (i * 26) row))) (by kernel_rfl) sx (fun hHeld => ?_); simp only [List.size_toArray, List.length_cons, List.length_nil, Nat.reduceAdd, Array.replicate_succ, Array.replicate_zero, List.push_toArray, List.append_toArray, List.nil_append, List.cons_append])
  clear sx
  refine rgT 0 (h := ?_)
  refine rgT 1 (h := ?_)
  refine rgT 2 (h := ?_)
  refine rgT 3 (h := ?_)
  refine rgT 4 (h := ?_)
  refine rgT 5 (h := ?_)
  refine rgT 6 (h := ?_)
  refine rgT 7 (h := ?_)
  refine rgT 8 (h := ?_)
  refine rgT 9 (h := ?_)
  refine rgT 10 (h := ?_)
  refine rgL 11 179 (.tmp 17) gv (i * 26) row _ (hR := fun X hX => hX.2.2.out) (hu := uSt) (hi := HI.out) (h := ?_)
  (refine rgS 12 (h := fun K hK => ?_); go_simp)
  refine (HRES.out w0.drew a HWD.out.b HWD.out.c).mono ?_
  rintro e w1 ⟨rfl, b1, k1⟩
  have HW1 : Hid (Wb w1 G B bb hb qb (.slice (some ⟨gt, 0, none⟩) B.n ct) (a.1, decS v.1) kb mb (.slice (some ⟨gv, 0, none⟩) V.length cv) ev V E) := HWD.out.bench b1 HD.out.1 (k1.mono (fun y e => HWD.out.b.lo y e))
  have s1 := HSX.out w1 HW1.out.k
  have s2 := s1.1
  (refine hK.out _ _ s1 (fun hHeld => ?_); clear hK K; try simp only [Act.put, List.setIfInBounds_toArray, List.set_cons_zero, List.set_cons_succ])
  refine wpAnyH_done (by kernel_rfl) ?_ _
  clear hHeld s1
  clear hHeld
  have HK1 : Hid (Keeps G w0 w1) := ((Keeps.refl _ _).drew).trans (k1.mono (fun y e => HWD.out.b.lo y e))
  clear b1 k1
  go_wp2_with fail
  refine (boutE w1 G B hB bb hb qb _ (a.1, decS v.1) HW1.out.b hn4).mono ?_
  rintro e w2 ⟨g, rv, rfl, o1, o2, b2, k2, n2⟩
  have HW2 : Hid (Wb w2 G B bb hb qb (.slice (some ⟨gt, 0, none⟩) B.n ct) (a.1, decS v.1) kb mb (.slice (some ⟨gv, 0, none⟩) V.length cv) ev V E) := HW1.out.bench b2 HD.out.1 k2
  obtain ⟨ra, rc, hrv⟩ := o2.form
  subst hrv
  have HN2 : Hid (∀ x, (Value.slice ra (regsL (decS v.1).rg B.n).length rc).ownBlock = some x → x ≠ g) := n2
  clear n2
  have HO2 : Hid (OwW w2 w1.heap.size (.slice (some ⟨g, 0, none⟩) B.wd B.wd) (wlL (decS v.1).wo B.wd) ∧ OwW w2 w1.heap.size (.slice ra (regsL (decS v.1).rg B.n).length rc) (regsL (decS v.1).rg B.n)) := ⟨o1, o2⟩
  have HK2 : Hid (Keeps G w0 w2) := HK1.out.trans k2
  have hge : ¬ G w.heap.size := fun e => by have := H.out.b.gl _ e; omega
  have e2 : w2.heap[w.heap.size]? = some (.cells #[.slice none 0 0, .slice none 0 0] 51) := (HK2.out.block _ (Array.getElem?_eq_some_iff.1 H0.out.2).1 hge).trans H0.out.2
  have hz2 := (Array.getElem?_eq_some_iff.1 e2).1
  clear o1 o2 b2 k2 s2
  generalize (regsL (decS v.1).rg B.n).length = rn at *
  have e3 : (w2.alloc (.cells #[.slice (some ⟨g, 0, none⟩) B.wd B.wd, .slice ra rn rc] 51)).heap[w.heap.size]? = some (.cells #[.slice none 0 0, .slice none 0 0] 51) := (Below.heap_alloc _ _ _ hz2).trans e2
  have e4 : (w2.alloc (.cells #[.slice (some ⟨g, 0, none⟩) B.wd B.wd, .slice ra rn rc] 51)).heap[w2.heap.size]? = some (.cells #[.slice (some ⟨g, 0, none⟩) B.wd B.wd, .slice ra rn rc] 51) := heap_alloc_last _ _ _ rfl
  have HEE : Hid ((w2.alloc (.cells #[.slice (some ⟨g, 0, none⟩) B.wd B.wd, .slice ra rn rc] 51)).heap[w.heap.size]? = some (.cells #[.slice none 0 0, .slice none 0 0] 51) ∧ ¬ G w.heap.size ∧ w.heap.size < w2.heap.size) := ⟨e3, hge, hz2⟩
  generalize idleP a.1 = idl at *
  have g2 : w2.cell? ⟨w.heap.size, 0, none⟩ = some (.slice none 0 0) := (cell?_heap e2 0).trans rfl
  have g3 : w2.cell? ⟨w.heap.size, 1, none⟩ = some (.slice none 0 0) := (cell?_heap e2 1).trans rfl
  have g4 := frozen?_heap e2 0
  have g5 := frozen?_heap e2 1
  have HE2 : Hid (w2.heap[w.heap.size]? = some (.cells #[.slice none 0 0, .slice none 0 0] 51)) := e2
  clear e2 hge
  have c30 := (cell?_heap e3 0).trans rfl
  have c31 := (cell?_heap e3 1).trans rfl
  have f30 := frozen?_heap e3 0
  have f31 := frozen?_heap e3 1
  have c40 := (cell?_heap e4 0).trans rfl
  have c41 := (cell?_heap e4 1).trans rfl
  clear e3 e4
  go_wp2_with fail
  have k3 : Keeps (fun y => y = w.heap.size) w2 (((w2.setCell ⟨w.heap.size, 0, none⟩ (.slice (some ⟨g, 0, none⟩) B.wd B.wd)).setCell ⟨w.heap.size, 1, none⟩ (.slice ra rn rc)).alloc (.cells #[.slice (some ⟨g, 0, none⟩) B.wd B.wd, .slice ra rn rc] 51)) := (Keeps.setCell (B := fun y => y = w.heap.size) (Keeps.setCell (B := fun y => y = w.heap.size) (Keeps.refl _ _) rfl _) rfl _).alloc _
  have eW : (((w2.setCell ⟨w.heap.size, 0, none⟩ (.slice (some ⟨g, 0, none⟩) B.wd B.wd)).setCell ⟨w.heap.size, 1, none⟩ (.slice ra rn rc)).alloc (.cells #[.slice (some ⟨g, 0, none⟩) B.wd B.wd, .slice ra rn rc] 51)).heap[w.heap.size]? = some (.cells #[.slice (some ⟨g, 0, none⟩) B.wd B.wd, .slice ra rn rc] 51) := by
    have h1 := heapSet HE2.out (j := 0) (.slice (some ⟨g, 0, none⟩) B.wd B.wd)
    have h2 := heapSet h1 (j := 1) (.slice ra rn rc)
    exact (Below.heap_alloc _ _ _ (Array.getElem?_eq_some_iff.1 h2).1).trans h2
  have hrg : (((w2.setCell ⟨w.heap.size, 0, none⟩ (.slice (some ⟨g, 0, none⟩) B.wd B.wd)).setCell ⟨w.heap.size, 1, none⟩ (.slice ra rn rc)).alloc (.cells #[.slice (some ⟨g, 0, none⟩) B.wd B.wd, .slice ra rn rc] 51)).rangeAt w.heap.size 0 [(.slice (some ⟨g, 0, none⟩) B.wd B.wd), (.slice ra rn rc)] := fun j u hj => by
    rw [Nat.zero_add, cell?_heap eW j, List.getElem?_toArray]
    exact hj
  refine bodyPost_ret (results_cellM (p := 4) (ty := 51) rfl _ _ w.heap.size [(.slice (some ⟨g, 0, none⟩) B.wd B.wd), (.slice ra rn rc)] _ (by rfl) hrg Tryz.underlying51 rfl (by kernel_rfl)) rfl ⟨g, _, rfl, ?_⟩
  have z0 : w.heap.size ≤ w1.heap.size := by have := H0.out.1.size; have := HK1.out.size; omega
  have z1 : w.heap.size < w1.heap.size := by have := (Array.getElem?_eq_some_iff.1 H0.out.2).1; have := HK1.out.size; omega
  refine ⟨(owK HO2.out.1 k3 (fun y hy e => by have := (World.ownsRow.lt HO2.out.1 y hy).1; omega)).down z0, (owK HO2.out.2 k3 (fun y hy e => by have := (World.ownsRow.lt HO2.out.2 y hy).1; omega)).down z0, ⟨_, HW2.out.b.keeps k3 (fun y e hG => HEE.out.2.1 (by rw [← show y = w.heap.size from e]; exact hG)), HW2.out.k.keeps k3 (fun y e hy => by have := H.out.k.lt hy; have e : y = w.heap.size := e; omega), HW2.out.d, HW2.out.c⟩, ?_, HN2.out⟩
  refine ⟨k3.os.trans (HK2.out.os.trans H0.out.1.os), k3.tape.trans (HK2.out.tape.trans H0.out.1.tape), k3.output.trans (HK2.out.output.trans H0.out.1.output), Nat.le_trans H0.out.1.size (Nat.le_trans HK2.out.size k3.size), fun x hx hn => ?_⟩
  have hx0 : x < w0.heap.size := Nat.lt_of_lt_of_le hx H0.out.1.size
  have hx2 : x < w2.heap.size := Nat.lt_of_lt_of_le hx0 HK2.out.size
  exact (k3.block x hx2 (by show ¬ x = w.heap.size; omega)).trans ((HK2.out.block x hx0 hn).trans (H0.out.1.block x hx (fun e => e)))
end Go.Proofs.YtdpebhdjcgiboaaGreat

namespace Go.Proofs.YtdpebhdjcgiboaaGreat
open Go.ChangeShapes Go.WideShapes Go.ChangeAt Go.RowKit Go.MuLone Go.RwLone
set_option linter.unusedVariables false
set_option maxRecDepth 100000
set_option maxHeartbeats 6400000
/-- A comparison that is an order. -/
structure Cmp {α : Type} (c : α → α → Int) : Prop where
  r : ∀ x, c x x = 0
  f : ∀ x y, c y x = - c x y
  t : ∀ x y z, c x y ≤ 0 → c y z ≤ 0 → c x z ≤ 0
  e : ∀ x y, c x y = 0 → x = y
theorem cmU_ord : Cmp cmU := by
  refine ⟨fun x => ?_, fun x y => ?_, fun x y z h1 h2 => ?_, fun x y h => ?_⟩
  · unfold cmU; rw [if_neg (by omega), if_neg (by omega)]
  · unfold cmU; split <;> split <;> omega
  · unfold cmU at *
    split at h1 <;> split at h2 <;> split <;> (try split at h1) <;> (try split at h2) <;> (try split) <;> omega
  · unfold cmU at h; split at h
    · omega
    · split at h <;> omega
theorem cmL_r : ∀ x, cmL x x = 0
  | [] => rfl
  | x :: xs => by unfold cmL; rw [if_pos (cmU_ord.r x)]; exact cmL_r xs
theorem cmL_f : ∀ x y, cmL y x = - cmL x y
  | [], [] => rfl
  | [], _ :: _ => rfl
  | _ :: _, [] => rfl
  | x :: xs, y :: ys => by
    have h := cmU_ord.f x y
    unfold cmL
    by_cases h0 : cmU x y = 0
    · rw [if_pos (by omega), if_pos h0]; exact cmL_f xs ys
    · rw [if_neg (by omega), if_neg h0]; exact h
theorem cmL_t : ∀ x y z, cmL x y ≤ 0 → cmL y z ≤ 0 → cmL x z ≤ 0
  | [], _, [], _, _ => by simp [cmL]
  | [], _, _ :: _, _, _ => by simp [cmL]
  | x :: xs, [], z, h1, h2 => by simp [cmL] at h1
  | x :: xs, y :: ys, [], h1, h2 => by simp [cmL] at h2
  | x :: xs, y :: ys, z :: zs, h1, h2 => by
    unfold cmL at h1 h2 ⊢
    by_cases a : cmU x y = 0
    · have e := cmU_ord.e x y a
      subst e
      rw [if_pos a] at h1
      by_cases b : cmU x z = 0
      · rw [if_pos b] at h2 ⊢; exact cmL_t xs ys zs h1 h2
      · rw [if_neg b] at h2 ⊢; exact h2
    · rw [if_neg a] at h1
      by_cases b : cmU y z = 0
      · have e := cmU_ord.e y z b
        subst e
        rw [if_neg a]; exact h1
      · rw [if_neg b] at h2
        have h3 := cmU_ord.t x y z h1 h2
        by_cases c : cmU x z = 0
        · have e := cmU_ord.e x z c
          subst e
          have := cmU_ord.f x y
          omega
        · rw [if_neg c]; exact h3
theorem cmL_e : ∀ x y, cmL x y = 0 → x = y
  | [], [], _ => rfl
  | [], _ :: _, h => by simp [cmL] at h
  | _ :: _, [], h => by simp [cmL] at h
  | x :: xs, y :: ys, h => by
    unfold cmL at h
    by_cases a : cmU x y = 0
    · rw [if_pos a] at h
      rw [cmU_ord.e x y a, cmL_e xs ys h]
    · rw [if_neg a] at h; exact absurd h a
theorem cmO_ord : Cmp (fun (x y : List Int × List Int) => cmO x.1 x.2 y.1 y.2) := by
  refine ⟨fun x => ?_, fun x y => ?_, fun x y z h1 h2 => ?_, fun x y h => ?_⟩
  · unfold cmO orI; rw [cmL_r, if_pos rfl]; exact cmL_r _
  · unfold cmO orI
    have h := cmL_f x.1 y.1
    by_cases a : cmL x.1 y.1 = 0
    · rw [if_pos (by omega), if_pos a]; exact cmL_f _ _
    · rw [if_neg (by omega), if_neg a]; exact h
  · skip
    unfold cmO orI at *
    by_cases a : cmL x.1 y.1 = 0
    · have e := cmL_e _ _ a
      rw [if_pos a] at h1
      rw [e]
      by_cases b : cmL y.1 z.1 = 0
      · rw [if_pos b] at h2 ⊢; exact cmL_t _ _ _ h1 h2
      · rw [if_neg b] at h2 ⊢; exact h2
    · rw [if_neg a] at h1
      by_cases b : cmL y.1 z.1 = 0
      · have e := cmL_e _ _ b
        rw [← e, if_neg a]; exact h1
      · rw [if_neg b] at h2
        have h3 := cmL_t _ _ _ h1 h2
        by_cases c : cmL x.1 z.1 = 0
        · have e := cmL_e _ _ c
          rw [← e] at h2 b
          have := cmL_f x.1 y.1
          omega
        · rw [if_neg c]; exact h3
  · skip
    unfold cmO orI at h
    by_cases a : cmL x.1 y.1 = 0
    · rw [if_pos a] at h
      exact Prod.ext (cmL_e _ _ a) (cmL_e _ _ h)
    · rw [if_neg a] at h; exact absurd h a
/-- An outcome: its two slices, what they hold. -/
structure OuD where
  a1 : Option Addr
  c1 : Nat
  a2 : Option Addr
  c2 : Nat
  X : List Int
  Y : List Int
def ouC (x : OuD) : List Value := [.slice x.a1 x.X.length x.c1, .slice x.a2 x.Y.length x.c2]
theorem ouC_one (x : OuD) : ∀ u ∈ ouC x, u.oneCell' = true := by
  intro u hu
  simp [ouC] at hu
  rcases hu with rfl | rfl <;> rfl
structure OuW (w : World) (B : Nat) (x : OuD) : Prop where
  o1 : OwW w B (.slice x.a1 x.X.length x.c1) x.X
  o2 : OwW w B (.slice x.a2 x.Y.length x.c2) x.Y
  l1 : x.X.length ≤ 1000000
  l2 : x.Y.length ≤ 1000000
theorem OuW.keeps {w w' : World} {B : Nat} {x : OuD} {D : Nat → Prop} (h : OuW w B x) (k : Keeps D w w') (hn : ∀ g cur, w.heap[g]? = some (.cells cur 55) → B ≤ g → ¬ D g) : OuW w' B x := by
  refine ⟨owK h.o1 k (fun g hg => ?_), owK h.o2 k (fun g hg => ?_), h.l1, h.l2⟩
  · obtain ⟨cur, e⟩ := blk h.o1 hg
    exact hn g cur e (World.ownsRow.lt h.o1 g hg).1
  · obtain ⟨cur, e⟩ := blk h.o2 hg
    exact hn g cur e (World.ownsRow.lt h.o2 g hg).1
end Go.Proofs.YtdpebhdjcgiboaaGreat

namespace Go.Proofs.YtdpebhdjcgiboaaGreat
open Go.ChangeShapes Go.WideShapes Go.ChangeAt Go.RowKit Go.MuLone Go.RwLone
set_option linter.unusedVariables false
set_option maxRecDepth 100000
set_option maxHeartbeats 6400000
end Go.Proofs.YtdpebhdjcgiboaaGreat
