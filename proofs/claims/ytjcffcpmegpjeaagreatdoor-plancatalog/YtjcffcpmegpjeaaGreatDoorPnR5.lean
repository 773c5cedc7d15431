import Derived.Test.YtjcffcpmegpjeaaGreatDoorPnR3
namespace Go.Proofs.YtjcffcpmegpjeaaGreatDoor
open Go.ChangeShapes Go.WideShapes Go.ChangeAt Go.RowKit
set_option linter.unusedVariables false
set_option maxRecDepth 100000
theorem res_row_tmp {P : Program} {fn : Func} {p : Tmp} {ty : TypeId} {q : Tmp} (h : fn.results = #[.cell p ty, .tmp q]) (tmps : Array Value) (w : World) (g : Nat) (t : TypeId) (cs : Array Value) (fr : Nat × Nat) (d : TypeDesc)
    (hp : tmps.getD p undef = .pointer (some ⟨g, 0, none⟩)) (hg : w.heap[g]? = some (.cells cs t fr))
    (hu : P.underlying ty = some d) (hd : (match d with | .struct _ | .array _ _ => true | _ => false) = true) (hi : (P.info? ty).map (·.size) = some cs.size) :
    (results fn tmps).run P w = .ok (.tuple #[.agg cs, tmps.getD q undef]) w := by
  have hp' : tmps[p]?.getD undef = .pointer (some ⟨g, 0, none⟩) := by simpa using hp
  simp [results, h, hp', asAddr, run_loadVar_row w g t ty cs fr d hg hu hd hi]
theorem heap_set {w : World} {g j : Nat} {c : Array Value} {t : TypeId} (h : w.heap[g]? = some (.cells c t)) (v : Value) : (w.setCell ⟨g, j, none⟩ v).heap[g]? = some (.cells (c.setIfInBounds j v) t) := by
  have hb : g < w.heap.size := (Array.getElem?_eq_some_iff.1 h).1
  have he := (Array.getElem?_eq_some_iff.1 h).2
  show (w.heap.modify g _)[g]? = _
  rw [Array.getElem?_modify]
  simp [he, hb]
theorem heap_new (w : World) (o : Obj) : (w.alloc o).heap[w.heap.size]? = some o := by
  show (w.heap.push o)[w.heap.size]? = _
  simp
theorem intValT (n : Int) (w : World) : Calls Tryz.prog 50 #[.int .i64 n] w fun e w' => e = .returned (.agg #[.int .i64 2, .int .i64 n, .string ⟨#[]⟩]) ∧ Below w.heap.size w w' := by
  go_enter Tryz.func50, Tryz.ntmps50
  go_wp2
  exact bodyPost_ret (results_cell_row (p := 2) (ty := 59) rfl _ _ w.heap.size 59 _ (0, 0) _ rfl (heap_new _ _) Tryz.underlying59 rfl (by kernel_rfl)) rfl ⟨rfl, boxVal w (2, n, ⟨#[]⟩)⟩
theorem keyOfT (a : Value) (vs : List VL) (B : Nat) (w : World) (hB : B ≤ w.heap.size) (ha : SeesV w B a vs) (hv : ∀ v ∈ vs, VOK v) (hl : vs.length ≤ 16) (hf : faultL vs = 0) :
    Calls Tryz.prog 52 #[a] w fun e w' => e = .returned (.string (strOfNums (keyL vs))) ∧ Below B w w' := by
  have HK : Hid (∀ _ : Unit, Calls Tryz.prog 78 #[a] w fun e w' => e = .returned (.tuple #[.string (strOfNums (keyL vs)), .int .i64 0]) ∧ Below B w w') := fun _ => (keyG a vs B w hB ha hv).mono fun e w' h => ⟨h.1.trans (by rw [if_neg (by omega), if_pos hf]), h.2⟩
  obtain ⟨ra, rc, rfl⟩ := ha.form
  clear ha hv hf
  generalize strOfNums (keyL vs) = K at *
  go_enter Tryz.func52, Tryz.ntmps52
  go_wp2_with fail
  refine (HK.out ()).mono ?_
  rintro e w1 ⟨rfl, hb⟩
  go_wp2
  go_ret
  exact ⟨rfl, hb⟩
/-- A row's pair, where nothing is wrong. -/
def rpK (num : Int) (cs : List CD) (ks : List Int) (vs : List VL) : ByteArray := if rpE num cs ks vs = 0 then keyT num ks vs else ⟨#[]⟩
def rpD (num : Int) (cs : List CD) (ks : List Int) (vs : List VL) : ByteArray := if rpE num cs ks vs = 0 then datT vs else ⟨#[]⟩
def pairV (k d : ByteArray) : Value := .agg #[.string k, .string d]
theorem rowE_faults : ∀ (vs : List VL) (cs : List CD), vs.length = cs.length → rowE vs cs = 0 → faultL vs = 0
  | [], _, _, _ => rfl
  | v :: vs, [], h, _ => by simp at h
  | v :: vs, c :: cs, h, he => by
    rw [rowE] at he
    by_cases hc : colE v c = 0
    · rw [if_neg (by simp [hc])] at he
      have h1 : faultV v = 0 := by
        unfold colE at hc
        by_cases hf : faultV v = 0
        · exact hf
        · rw [if_pos hf] at hc; exact hc
      rw [faultL, if_neg (by simp [h1])]
      exact rowE_faults vs cs (by simpa using h) he
    · rw [if_pos hc] at he; exact absurd he hc
theorem fault_mem : ∀ (vs : List VL), faultL vs = 0 → ∀ v ∈ vs, faultV v = 0
  | [], _, v, hv => by simp at hv
  | u :: vs, h, v, hv => by
    rw [faultL] at h
    by_cases hu : faultV u = 0
    · rw [if_neg (by simp [hu])] at h
      rcases List.mem_cons.1 hv with rfl | hv
      · exact hu
      · exact fault_mem vs h v hv
    · rw [if_pos hu] at h; exact absurd h hu
theorem fault_all : ∀ (vs : List VL), (∀ v ∈ vs, faultV v = 0) → faultL vs = 0
  | [], _ => rfl
  | u :: vs, h => by
    rw [faultL, if_neg (by simp [h u (by simp)])]
    exact fault_all vs (fun v hv => h v (List.mem_cons_of_mem _ hv))
theorem own_new1 (w : World) (B : Nat) (v : VL) (hB : B ≤ w.heap.size) : ownV (w.alloc (.cells #[.int .i64 v.1, .int .i64 v.2.1, .string v.2.2] 59)) B (.slice (some ⟨w.heap.size, 0, none⟩) 1 1) [v] :=
  ⟨rfl, Or.inr ⟨w.heap.size, 1, _, rfl, hB, heap_new _ _, Nat.le_refl _, by unfold maxLen; omega, rfl, rfl⟩⟩
end Go.Proofs.YtjcffcpmegpjeaaGreatDoor

namespace Go.Proofs.YtjcffcpmegpjeaaGreatDoor
open Go.ChangeShapes Go.WideShapes Go.ChangeAt Go.RowKit
set_option linter.unusedVariables false
set_option maxRecDepth 100000
theorem faultV_int (n : Int) : faultV (2, n, ⟨#[]⟩) = 0 := by
  unfold faultV fault2
  simp
theorem errO_cases (c : Int) : errO c = .nilIface ∨ errO c = .iface 90 (.agg #[.int .i64 c]) := by
  by_cases h : c = 0
  · left; rw [h, errO_nil]
  · right; exact errO_not h
/-- What is kept of the two blocks that a row's pair is made in. -/
structure RPS (w W : World) (nm : ByteArray) (num : Int) (cv kv : Value) : Prop where
  below : Below w.heap.size w W
  tab : W.heap[w.heap.size]? = some (.cells #[.string nm, .int .i64 num, cv, kv] 25)
  pair : W.heap[w.heap.size + 1]? = some (.cells #[.string ⟨#[]⟩, .string ⟨#[]⟩] 28)
  size : w.heap.size + 2 ≤ W.heap.size
theorem RPS.later {w W W' : World} {nm : ByteArray} {num : Int} {cv kv : Value} {B : Nat} (h : RPS w W nm num cv kv) (hb : Below B W W') (hB : w.heap.size + 2 ≤ B) : RPS w W' nm num cv kv :=
  ⟨h.below.trans (hb.mono (by omega)), (hb.block _ (by omega)).trans h.tab, (hb.block _ (by omega)).trans h.pair, by have := hb.size; have := h.size; omega⟩
theorem RPS.cells {w W : World} {nm : ByteArray} {num : Int} {cv kv : Value} (h : RPS w W nm num cv kv) : W.cell? ⟨w.heap.size, 1, none⟩ = some (.int .i64 num) ∧ W.cell? ⟨w.heap.size, 2, none⟩ = some cv ∧ W.cell? ⟨w.heap.size, 3, none⟩ = some kv ∧ W.cell? ⟨w.heap.size + 1, 0, none⟩ = some (.string ⟨#[]⟩) ∧ W.cell? ⟨w.heap.size + 1, 1, none⟩ = some (.string ⟨#[]⟩) ∧ W.frozen? ⟨w.heap.size + 1, 0, none⟩ = false ∧ W.frozen? ⟨w.heap.size + 1, 1, none⟩ = false := by
  have h1 := h.tab
  have h2 := h.pair
  unfold World.cell? World.frozen?
  rw [h1, h2]
  exact ⟨rfl, rfl, rfl, rfl, rfl, rfl, rfl⟩
theorem RPS.new (w : World) (nm : ByteArray) (num : Int) (cv kv : Value) : RPS w ((w.alloc (.cells #[.string nm, .int .i64 num, cv, kv] 25)).alloc (.cells #[.string ⟨#[]⟩, .string ⟨#[]⟩] 28)) nm num cv kv := by
  have s1 : (w.alloc (.cells #[.string nm, .int .i64 num, cv, kv] 25)).heap.size = w.heap.size + 1 := szAl _ _
  refine ⟨((Below.refl _ _).alloc (Nat.le_refl _) _).alloc (by omega) _, ?_, ?_, by rw [szAl, s1]; omega⟩
  · rw [Below.heap_alloc _ _ _ (by omega)]; exact heap_new _ _
  · have := heap_new (w.alloc (.cells #[.string nm, .int .i64 num, cv, kv] 25)) (.cells #[.string ⟨#[]⟩, .string ⟨#[]⟩] 28)
    rw [s1] at this
    exact this
/-- What stands there behind the pair was stored. -/
theorem RPS.put {w W : World} {nm : ByteArray} {num : Int} {cv kv : Value} (h : RPS w W nm num cv kv) (k d : ByteArray) : Below w.heap.size w ((W.setCell ⟨w.heap.size + 1, 0, none⟩ (.string k)).setCell ⟨w.heap.size + 1, 1, none⟩ (.string d)) ∧ ((W.setCell ⟨w.heap.size + 1, 0, none⟩ (.string k)).setCell ⟨w.heap.size + 1, 1, none⟩ (.string d)).heap[w.heap.size + 1]? = some (.cells #[.string k, .string d] 28) :=
  ⟨(h.below.setCell (by simp only; omega) _).setCell (by simp only; omega) _, heap_set (heap_set h.pair _) _⟩
theorem rp_err {num : Int} {cs : List CD} {ks : List Int} {vs : List VL} {E : Int} (h : rpE num cs ks vs = E) (hE : E ≠ 0) : Value.tuple #[pairV (rpK num cs ks vs) (rpD num cs ks vs), errO (rpE num cs ks vs)] = .tuple #[.agg #[.string ⟨#[]⟩, .string ⟨#[]⟩], .iface 90 (.agg #[.int .i64 E])] := by
  unfold rpK rpD pairV
  rw [h, if_neg hE, if_neg hE, errO_not hE]
theorem rp_ok {num : Int} {cs : List CD} {ks : List Int} {vs : List VL} (h : rpE num cs ks vs = 0) : Value.tuple #[pairV (rpK num cs ks vs) (rpD num cs ks vs), errO (rpE num cs ks vs)] = .tuple #[.agg #[.string (keyT num ks vs), .string (datT vs)], .nilIface] := by
  unfold rpK rpD pairV
  rw [h, if_pos rfl, if_pos rfl, errO_nil]
theorem ret_same {a b : Value} (h : a = b) : Ending.returned b = .returned a := by rw [h]
set_option maxHeartbeats 8000000 in
theorem rowPairT (nm : ByteArray) (num : Int) (cv kv rv : Value) (cs : List CD) (ks : List Int) (vs : List VL) (B : Nat) (w : World) (hB : B ≤ w.heap.size) (hs : SeesC w B cv cs) (hu : SeesG (Value.int .i64) w B kv ks) (hr : SeesV w B rv vs) (hvs : ∀ v ∈ vs, VOK v)
    (hks : ∀ k ∈ ks, 0 ≤ k ∧ k < (cs.length : Int)) (hkl : ks.length ≤ 8) (hcl : cs.length ≤ 16) (hnum : -9223372036854775808 ≤ num ∧ num ≤ 9223372036854775807) :
    Calls Tryz.prog 20 #[.agg #[.string nm, .int .i64 num, cv, kv], rv] w fun e w' => e = .returned (.tuple #[pairV (rpK num cs ks vs) (rpD num cs ks vs), errO (rpE num cs ks vs)]) ∧ Below w.heap.size w w' := by
  obtain ⟨ca, cc, rfl⟩ := hs.form
  obtain ⟨ka, kc, rfl⟩ := hu.form
  obtain ⟨ra, rc, rfl⟩ := hr.form
  have HN : Hid _ := RPS.new w nm num (.slice ca cs.length cc) (.slice ka ks.length kc)
  by_cases hlen : vs.length = cs.length
  · have heq : ((vs.length : Int) != (cs.length : Int)) = false := by simp; omega
    obtain ⟨t1, t2, t3, t4, t5, t6, t7⟩ := HN.out.cells
    have HEQ : Hid (vs.length = cs.length) := hlen
    have hE0 : rpE num cs ks vs = if rowE vs cs ≠ 0 then rowE vs cs else if 160 < (keyT num ks vs).size ∨ 512 < (datT vs).size then 72 else 0 := if_neg (by simp [hlen])
    have HE0 : Hid (rpE num cs ks vs = if rowE vs cs ≠ 0 then rowE vs cs else if 160 < (keyT num ks vs).size ∨ 512 < (datT vs).size then 72 else 0) := hE0
    have HRF : Hid (rowE vs cs = 0 → faultL vs = 0) := rowE_faults vs cs hlen
    have HEACH : Hid (∀ _ : Unit, _) := fun _ => eachT (.slice ra vs.length rc) (.slice ca cs.length cc) vs cs w.heap.size B _ (by have := HN.out.size; omega) hlen hvs (hr.later (HN.out.below.mono hB)) t2 (hs.later (HN.out.below.mono hB))
    have HSR : Hid (SeesV w B (.slice ra vs.length rc) vs) := hr
    have HSK : Hid (SeesG (Value.int .i64) w B (.slice ka ks.length kc) ks) := hu
    have HVS : Hid (∀ v ∈ vs, VOK v) := hvs
    have HKS : Hid (∀ k ∈ ks, 0 ≤ k ∧ k < (cs.length : Int)) := hks
    clear hs hu hr hvs hks hlen hE0
    generalize rowE vs cs = x at *
    go_enter Tryz.func20, Tryz.ntmps20
    go_wp2_with fail
    refine (HEACH.out ()).mono ?_
    rintro e w3 ⟨rfl, hb3⟩
    have HN3 : Hid (RPS w w3 nm num (.slice ca cs.length cc) (.slice ka ks.length kc)) := HN.out.later hb3 HN.out.size
    clear hb3 HEACH HN t1 t2 t3 t4 t5 t6 t7
    obtain ⟨t1, t2, t3, t4, t5, t6, t7⟩ := HN3.out.cells
    by_cases hx : x = 0
    · subst hx
      have HFL : Hid (faultL vs = 0) := HRF.out rfl
      have HE1 : Hid (rpE num cs ks vs = if 160 < (keyT num ks vs).size ∨ 512 < (datT vs).size then 72 else 0) := HE0.out.trans (if_neg (by simp))
      clear HRF HE0
      rw [errO_nil]
      go_wp2_with fail
      refine (intValT num w3).mono ?_
      rintro e w4 ⟨rfl, hb4⟩
      have HN4 : Hid (RPS w w4 nm num (.slice ca cs.length cc) (.slice ka ks.length kc)) := HN3.out.later hb4 HN3.out.size
      clear hb4 HN3 t1 t2 t3 t4 t5 t6 t7
      have HBX : Hid (Below w4.heap.size w4 (w4.alloc (.cells #[.int .i64 2, .int .i64 num, .string ⟨#[]⟩] 59))) := boxVal w4 (2, num, ⟨#[]⟩)
      have HN5 : Hid (RPS w (w4.alloc (.cells #[.int .i64 2, .int .i64 num, .string ⟨#[]⟩] 59)) nm num (.slice ca cs.length cc) (.slice ka ks.length kc)) := HN4.out.later HBX.out HN4.out.size
      have HO5 : Hid (ownV (w4.alloc (.cells #[.int .i64 2, .int .i64 num, .string ⟨#[]⟩] 59)) (w.heap.size + 2) (.slice (some ⟨w4.heap.size, 0, none⟩) 1 1) [(2, num, ⟨#[]⟩)]) := own_new1 w4 (w.heap.size + 2) (2, num, ⟨#[]⟩) HN4.out.size
      obtain ⟨t1, t2, t3, t4, t5, t6, t7⟩ := HN5.out.cells
      go_wp2_with fail
      clear t1 t2 t3 t4 t5 t6 t7
      generalize w4.alloc (.cells #[.int .i64 2, .int .i64 num, .string ⟨#[]⟩] 59) = w5 at *
      go_loopw [7, 9, 36] (fun v _ i wr => ∃ j : Nat, j ≤ ks.length ∧ i = .int .i64 (j : Int) ∧ ownV wr (w.heap.size + 2) v (keyVs num (ks.take j) vs) ∧ RPS w wr nm num (.slice ca cs.length cc) (.slice ka ks.length kc)) (fun _ _ i _ => ks.length - (intOf i).toNat)
      case atStart => exact ⟨0, by omega, rfl, HO5.out, HN5.out⟩
      case round =>
        obtain ⟨j, hj, rfl, ho, hn⟩ := hrel
        have HO : Hid (ownV wr (w.heap.size + 2) _ (keyVs num (ks.take j) vs)) := ho
        have HN : Hid (RPS w wr nm num (.slice ca cs.length cc) (.slice ka ks.length kc)) := hn
        clear ho hn HO5 HN5
        by_cases hjl : j < ks.length
        · have hji : (j : Int) < (ks.length : Int) := by omega
          obtain ⟨kb, ko, rfl, hck⟩ := (HSK.out.later (HN.out.below.mono hB)).cell j hjl
          have hkk := HKS.out _ (List.getElem_mem hjl)
          obtain ⟨n, hn⟩ : ∃ n : Nat, ks[j] = (n : Int) := ⟨ks[j].toNat, by omega⟩
          have hnv : n < vs.length := by have := HEQ.out; omega
          have hnvi : (n : Int) < (vs.length : Int) := by omega
          have HKV : Hid (keyVs num (ks.take (j + 1)) vs = keyVs num (ks.take j) vs ++ [vs[n]]) := by
            show keyVs num (ks.take (j + 1)) vs = _
            unfold keyVs
            rw [List.take_succ_eq_append_getElem hjl, List.map_append, hn]
            simp [hnv]
          have HKL : Hid ((keyVs num (ks.take j) vs).length ≤ 9) := by
            show _ ≤ _
            unfold keyVs
            rw [List.length_cons, List.length_map, List.length_take]
            omega
          obtain ⟨b, off, rfl, c0, c1, c2⟩ := (HSR.out.later (HN.out.below.mono hB)).cell n hnv
          have hszr := HN.out.size
          rw [hn] at hck
          generalize vs[n] = v at *
          obtain ⟨vk, vi, vt⟩ := v
          dsimp only at *
          clear hkk hn
          go_wp2_with (at_builtin; refine app_val (by rfl) _ _ (by rfl) (w.heap.size + 2) _ (keyVs num (ks.take j) vs) (vk, vi, vt) HO.out (by rfl) (by rfl) (by have := HKL.out; omega) hszr ?_; intro v' w6 hown6 hbel6; have HO6 : Hid (ownV w6 (w.heap.size + 2) v' (keyVs num (ks.take j) vs ++ [(vk, vi, vt)])) := hown6; have HN6 : Hid (RPS w w6 nm num (.slice ca cs.length cc) (.slice _ ks.length kc)) := HN.out.later hbel6 (Nat.le_refl _); clear hown6 hbel6)
          go_roundw
          case rel => exact ⟨j + 1, by omega, by go_num, by rw [HKV.out]; exact HO6.out, HN6.out⟩
          case measure => simp [intOf]; omega
        · have hji : ¬ (j : Int) < (ks.length : Int) := by omega
          have ho2 := HO.out
          rw [show j = ks.length by omega, List.take_length] at ho2
          have HO2 : Hid (ownV wr (w.heap.size + 2) _ (keyVs num ks vs)) := ho2
          clear ho2
          have hszr := HN.out.size
          have hmem : ∀ u ∈ keyVs num ks vs, u = (2, num, ⟨#[]⟩) ∨ u ∈ vs := by
            intro u hu
            unfold keyVs at hu
            rcases List.mem_cons.1 hu with rfl | hu
            · exact Or.inl rfl
            · obtain ⟨k, hk, rfl⟩ := List.mem_map.1 hu
              have h1 := HKS.out k hk
              have h2 := HEQ.out
              have h3 : k.toNat < vs.length := by omega
              right
              rw [List.getD_eq_getElem?_getD, List.getElem?_eq_getElem h3]
              exact List.getElem_mem h3
          have HKV : Hid (∀ u ∈ keyVs num ks vs, VOK u) := by
            intro u hu
            rcases hmem u hu with rfl | hu
            · exact ⟨by show ByteArray.size ⟨#[]⟩ ≤ 9223372036854775807; decide, hnum⟩
            · exact HVS.out u hu
          have HKF : Hid (faultL (keyVs num ks vs) = 0) := by
            refine fault_all _ (fun u hu => ?_)
            rcases hmem u hu with rfl | hu
            · exact faultV_int num
            · exact fault_mem vs HFL.out u hu
          have HKL : Hid ((keyVs num ks vs).length ≤ 16) := by
            show _ ≤ _
            unfold keyVs
            rw [List.length_cons, List.length_map]
            omega
          have HROW : Hid (∀ _ : Unit, Calls Tryz.prog 51 #[.slice ra vs.length rc] wr fun e w' => e = .returned (.tuple #[.string (datT vs), .int .i64 0]) ∧ Below wr.heap.size wr w') := fun _ => (rowG (.slice ra vs.length rc) vs wr.heap.size wr (Nat.le_refl _) ((HSR.out.later (HN.out.below.mono hB)).mono (by omega)) HVS.out).mono fun e w' h => ⟨h.1.trans (by rw [if_neg (by have := HEQ.out; omega), if_pos HFL.out]; rfl), h.2⟩
          obtain ⟨oa, on, oc, rfl⟩ := HO2.out.form
          clear hmem HO
          go_wp2_with fail
          refine (HROW.out ()).mono ?_
          rintro e w6 ⟨rfl, hb6⟩
          have HN6 : Hid (RPS w w6 nm num (.slice ca cs.length cc) (.slice ka ks.length kc)) := HN.out.later hb6 hszr
          have HO6 : Hid (ownV w6 (w.heap.size + 2) (.slice oa on oc) (keyVs num ks vs)) := HO2.out.same (fun k hk _ => hb6.block k hk)
          clear hb6 HROW HO2
          have HKEY : Hid (∀ _ : Unit, Calls Tryz.prog 52 #[.slice oa on oc] w6 fun e w' => e = .returned (.string (keyT num ks vs)) ∧ Below w6.heap.size w6 w') := fun _ => keyOfT (.slice oa on oc) (keyVs num ks vs) w6.heap.size w6 (Nat.le_refl _) (HO6.out.seesAll (by have := HKL.out; omega)) HKV.out HKL.out HKF.out
          have HOK : Hid (rpE num cs ks vs = 0 → Value.tuple #[pairV (rpK num cs ks vs) (rpD num cs ks vs), errO (rpE num cs ks vs)] = .tuple #[.agg #[.string (keyT num ks vs), .string (datT vs)], .nilIface]) := fun h => rp_ok h
          generalize keyT num ks vs = K at *
          generalize datT vs = D at *
          go_wp2_with fail
          refine (HKEY.out ()).mono ?_
          rintro e w7 ⟨rfl, hb7⟩
          have HN7 : Hid (RPS w w7 nm num (.slice ca cs.length cc) (.slice ka ks.length kc)) := HN6.out.later hb7 HN6.out.size
          clear hb7 HKEY HO6 HN6 HN
          have HBP : Hid (Below w7.heap.size w7 (w7.alloc (.cells #[.string K, .string D] 28))) := (Below.refl _ _).alloc (Nat.le_refl _) _
          have HN8 : Hid (RPS w (w7.alloc (.cells #[.string K, .string D] 28)) nm num (.slice ca cs.length cc) (.slice ka ks.length kc)) := HN7.out.later HBP.out HN7.out.size
          obtain ⟨t1, t2, t3, t4, t5, t6, t7⟩ := HN8.out.cells
          have hkd : (w7.alloc (.cells #[.string K, .string D] 28)).cell? ⟨w7.heap.size, 0, none⟩ = some (.string K) ∧ (w7.alloc (.cells #[.string K, .string D] 28)).cell? ⟨w7.heap.size, 1, none⟩ = some (.string D) := by constructor <;> simp
          obtain ⟨k0, k1⟩ := hkd
          by_cases hbig : 160 < K.size ∨ 512 < D.size
          · have HE : Hid (rpE num cs ks vs = 72) := HE1.out.trans (if_pos hbig)
            obtain ⟨p1, p2⟩ := HN8.out.put ⟨#[]⟩ ⟨#[]⟩
            by_cases hk : 160 < K.size
            · have hb1 : (160 : Int) < (K.size : Int) := by omega
              clear hbig hk
              go_wp2
              exact bodyPost_ret (res_row_tmp (p := 4) (ty := 28) (q := 5) rfl _ _ (w.heap.size + 1) 28 _ (0, 0) _ rfl p2 Tryz.underlying28 rfl (by kernel_rfl)) rfl ⟨ret_same (rp_err HE.out (by decide)), p1⟩
            · have hb1 : ¬ (160 : Int) < (K.size : Int) := by omega
              have hb2 : (512 : Int) < (D.size : Int) := by omega
              clear hbig hk
              go_wp2
              exact bodyPost_ret (res_row_tmp (p := 4) (ty := 28) (q := 5) rfl _ _ (w.heap.size + 1) 28 _ (0, 0) _ rfl p2 Tryz.underlying28 rfl (by kernel_rfl)) rfl ⟨ret_same (rp_err HE.out (by decide)), p1⟩
          · have HE : Hid (rpE num cs ks vs = 0) := HE1.out.trans (if_neg hbig)
            have hb1 : ¬ (160 : Int) < (K.size : Int) := by omega
            have hb2 : ¬ (512 : Int) < (D.size : Int) := by omega
            clear hbig
            obtain ⟨p1, p2⟩ := HN8.out.put K D
            go_wp2
            exact bodyPost_ret (res_row_tmp (p := 4) (ty := 28) (q := 5) rfl _ _ (w.heap.size + 1) 28 _ (0, 0) _ rfl p2 Tryz.underlying28 rfl (by kernel_rfl)) rfl ⟨ret_same (HOK.out HE.out), p1⟩
    · have HE : Hid (rpE num cs ks vs = x) := HE0.out.trans (if_pos hx)
      have HNE : Hid (x ≠ 0) := hx
      rw [errO_not hx]
      clear hx
      go_wp2
      obtain ⟨p1, p2⟩ := HN3.out.put ⟨#[]⟩ ⟨#[]⟩
      exact bodyPost_ret (res_row_tmp (p := 4) (ty := 28) (q := 5) rfl _ _ (w.heap.size + 1) 28 _ (0, 0) _ rfl p2 Tryz.underlying28 rfl (by kernel_rfl)) rfl ⟨ret_same (rp_err HE.out HNE.out), p1⟩
  · have hne : ((vs.length : Int) != (cs.length : Int)) = true := by simp; omega
    have HE : Hid (rpE num cs ks vs = 167) := if_pos hlen
    clear hs hu hr hvs hks hlen
    obtain ⟨t1, t2, t3, t4, t5, t6, t7⟩ := HN.out.cells
    go_enter Tryz.func20, Tryz.ntmps20
    go_wp2
    refine bodyPost_ret (res_row_tmp (p := 4) (ty := 28) (q := 5) rfl _ _ (w.heap.size + 1) 28 _ (0, 0) _ rfl HN.out.pair Tryz.underlying28 rfl (by kernel_rfl)) rfl ⟨ret_same (rp_err HE.out (by decide)), HN.out.below⟩
end Go.Proofs.YtjcffcpmegpjeaaGreatDoor
