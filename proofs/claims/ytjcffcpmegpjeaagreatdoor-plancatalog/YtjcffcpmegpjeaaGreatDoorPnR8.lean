import Derived.Test.YtjcffcpmegpjeaaGreatDoorPnR5
namespace Go.Proofs.YtjcffcpmegpjeaaGreatDoor
open Go.ChangeShapes Go.WideShapes Go.ChangeAt Go.RowKit
set_option linter.unusedVariables false
set_option maxRecDepth 100000
/-- What is kept of the two blocks of told's pair. -/
structure TLS (w W : World) (k d : ByteArray) : Prop where
  below : Below w.heap.size w W
  one : W.heap[w.heap.size]? = some (.cells #[.string k, .string d] 28)
  pair : W.heap[w.heap.size + 1]? = some (.cells #[.string ⟨#[]⟩, .string ⟨#[]⟩] 28)
  size : w.heap.size + 2 ≤ W.heap.size
theorem TLS.later {w W W' : World} {k d : ByteArray} {B : Nat} (h : TLS w W k d) (hb : Below B W W') (hB : w.heap.size + 2 ≤ B) : TLS w W' k d :=
  ⟨h.below.trans (hb.mono (by omega)), (hb.block _ (by omega)).trans h.one, (hb.block _ (by omega)).trans h.pair, by have := hb.size; have := h.size; omega⟩
theorem TLS.cells {w W : World} {k d : ByteArray} (h : TLS w W k d) : W.cell? ⟨w.heap.size, 0, none⟩ = some (.string k) ∧ W.cell? ⟨w.heap.size, 1, none⟩ = some (.string d) ∧ W.cell? ⟨w.heap.size + 1, 0, none⟩ = some (.string ⟨#[]⟩) ∧ W.cell? ⟨w.heap.size + 1, 1, none⟩ = some (.string ⟨#[]⟩) ∧ W.frozen? ⟨w.heap.size + 1, 0, none⟩ = false ∧ W.frozen? ⟨w.heap.size + 1, 1, none⟩ = false := by
  have h1 := h.one
  have h2 := h.pair
  unfold World.cell? World.frozen?
  rw [h1, h2]
  exact ⟨rfl, rfl, rfl, rfl, rfl, rfl⟩
theorem TLS.new (w : World) (k d : ByteArray) : TLS w ((w.alloc (.cells #[.string k, .string d] 28)).alloc (.cells #[.string ⟨#[]⟩, .string ⟨#[]⟩] 28)) k d := by
  have s1 : (w.alloc (.cells #[.string k, .string d] 28)).heap.size = w.heap.size + 1 := szAl _ _
  refine ⟨((Below.refl _ _).alloc (Nat.le_refl _) _).alloc (by omega) _, ?_, ?_, by rw [szAl, s1]; omega⟩
  · rw [Below.heap_alloc _ _ _ (by omega)]; exact heap_new _ _
  · have := heap_new (w.alloc (.cells #[.string k, .string d] 28)) (.cells #[.string ⟨#[]⟩, .string ⟨#[]⟩] 28)
    rw [s1] at this
    exact this
theorem TLS.put {w W : World} {k d : ByteArray} (h : TLS w W k d) (x y : ByteArray) : Below w.heap.size w ((W.setCell ⟨w.heap.size + 1, 0, none⟩ (.string x)).setCell ⟨w.heap.size + 1, 1, none⟩ (.string y)) ∧ ((W.setCell ⟨w.heap.size + 1, 0, none⟩ (.string x)).setCell ⟨w.heap.size + 1, 1, none⟩ (.string y)).heap[w.heap.size + 1]? = some (.cells #[.string x, .string y] 28) :=
  ⟨(h.below.setCell (by simp only; omega) _).setCell (by simp only; omega) _, heap_set (heap_set h.pair _) _⟩
theorem codeT (c : Int) (w : World) (hg : ErrTy w) : Calls Tryz.prog 44 #[errO c] w fun e w' => e = .returned (.int .i64 c) ∧ Below w.heap.size w w' := by
  by_cases h : c = 0
  · subst h; rw [errO_nil]; exact code_nil w
  · rw [errO_not h]; exact code_err c w hg
theorem toldP_ok (k d : ByteArray) (w : World) : Calls Tryz.prog 19 #[pairV k d, .nilIface] w fun e w' => e = .returned (.tuple #[pairV k d, .int .i64 0]) ∧ Below w.heap.size w w' := by
  have HN : Hid _ := TLS.new w k d
  unfold pairV
  go_enter Tryz.func19, Tryz.ntmps19
  go_wp2_with fail
  refine (code_nil _).mono ?_
  rintro e w3 ⟨rfl, hb3⟩
  have HN3 : Hid (TLS w w3 k d) := HN.out.later hb3 HN.out.size
  clear hb3 HN
  obtain ⟨t1, t2, t3, t4, t5, t6⟩ := HN3.out.cells
  obtain ⟨p1, p2⟩ := HN3.out.put k d
  go_wp2
  exact bodyPost_ret (res_row_tmp (p := 4) (ty := 28) (q := 5) rfl _ _ (w.heap.size + 1) 28 _ (0, 0) _ rfl p2 Tryz.underlying28 rfl (by kernel_rfl)) rfl ⟨rfl, p1⟩
theorem toldP_err (k d : ByteArray) (c : Int) (hc : c ≠ 0) (w : World) (hg : ErrTy w) : Calls Tryz.prog 19 #[pairV k d, .iface 90 (.agg #[.int .i64 c])] w fun e w' => e = .returned (.tuple #[pairV ⟨#[]⟩ ⟨#[]⟩, .int .i64 c]) ∧ Below w.heap.size w w' := by
  have HN : Hid _ := TLS.new w k d
  have HC : Hid (∀ _ : Unit, _) := fun _ => code_err c _ (hg.later HN.out.below hg.pos)
  have hcb : (c != 0) = true := by simp [hc]
  have HNE : Hid (c ≠ 0) := hc
  clear hc
  unfold pairV
  go_enter Tryz.func19, Tryz.ntmps19
  go_wp2_with fail
  refine (HC.out ()).mono ?_
  rintro e w3 ⟨rfl, hb3⟩
  have HB : Hid (Below w3.heap.size w3 (w3.alloc (.cells #[.string ⟨#[]⟩, .string ⟨#[]⟩] 28))) := (Below.refl _ _).alloc (Nat.le_refl _) _
  have HN3 : Hid (TLS w w3 k d) := HN.out.later hb3 HN.out.size
  have HN4 : Hid (TLS w (w3.alloc (.cells #[.string ⟨#[]⟩, .string ⟨#[]⟩] 28)) k d) := HN3.out.later HB.out HN3.out.size
  clear hb3 HN
  obtain ⟨t1, t2, t3, t4, t5, t6⟩ := HN4.out.cells
  obtain ⟨p1, p2⟩ := HN4.out.put ⟨#[]⟩ ⟨#[]⟩
  go_wp2
  exact bodyPost_ret (res_row_tmp (p := 4) (ty := 28) (q := 5) rfl _ _ (w.heap.size + 1) 28 _ (0, 0) _ rfl p2 Tryz.underlying28 rfl (by kernel_rfl)) rfl ⟨rfl, p1⟩
theorem toldV_ok (a : Value) (w : World) : Calls Tryz.prog 26 #[a, .nilIface] w fun e w' => e = .returned (.tuple #[a, .int .i64 0]) ∧ Below w.heap.size w w' := by
  go_enter Tryz.func26, Tryz.ntmps26
  go_wp2_with fail
  refine (code_nil _).mono ?_
  rintro e w3 ⟨rfl, hb3⟩
  go_wp2
  go_ret2
  exact ⟨rfl, hb3⟩
theorem toldV_err (a : Value) (c : Int) (hc : c ≠ 0) (w : World) (hg : ErrTy w) : Calls Tryz.prog 26 #[a, .iface 90 (.agg #[.int .i64 c])] w fun e w' => e = .returned (.tuple #[.slice none 0 0, .int .i64 c]) ∧ Below w.heap.size w w' := by
  have hcb : (c != 0) = true := by simp [hc]
  go_enter Tryz.func26, Tryz.ntmps26
  go_wp2_with fail
  refine (code_err c _ hg).mono ?_
  rintro e w3 ⟨rfl, hb3⟩
  go_wp2
  go_ret2
  exact ⟨rfl, hb3⟩
end Go.Proofs.YtjcffcpmegpjeaaGreatDoor

namespace Go.Proofs.YtjcffcpmegpjeaaGreatDoor
open Go.ChangeShapes Go.WideShapes Go.ChangeAt Go.RowKit
set_option linter.unusedVariables false
set_option maxRecDepth 100000
/-- A table has few columns, and its key's places lie among them. -/
theorem isTb_few {nm : ByteArray} {num : Int} {cs : List CD} {ks : List Int} (h : isTb nm num cs ks = true) : (∀ k ∈ ks, 0 ≤ k ∧ k < (cs.length : Int)) ∧ ks.length ≤ 8 ∧ cs.length ≤ 16 := by
  unfold isTb okCs okKs at h
  simp only [Bool.and_eq_true, decide_eq_true_eq, List.all_eq_true] at h
  obtain ⟨⟨⟨h1, h2⟩, ⟨⟨h3, h4⟩, h5⟩⟩, ⟨⟨⟨⟨h6, h7⟩, h8⟩, h9⟩, h10⟩⟩ := h
  refine ⟨fun k hk => ?_, h7, h4⟩
  have := h8 k hk
  unfold okPl at this
  simp only [Bool.and_eq_true, decide_eq_true_eq] at this
  exact ⟨this.1.1, this.1.2⟩
/-- RowPair's error, key and data. -/
def RPE (nm : ByteArray) (num : Int) (cs : List CD) (ks : List Int) (vs : List VL) : Int := if isTb nm num cs ks then rpE num cs ks vs else 169
def RPK (nm : ByteArray) (num : Int) (cs : List CD) (ks : List Int) (vs : List VL) : ByteArray := if isTb nm num cs ks then rpK num cs ks vs else ⟨#[]⟩
def RPD (nm : ByteArray) (num : Int) (cs : List CD) (ks : List Int) (vs : List VL) : ByteArray := if isTb nm num cs ks then rpD num cs ks vs else ⟨#[]⟩
theorem RPS.cell0 {w W : World} {nm : ByteArray} {num : Int} {cv kv : Value} (h : RPS w W nm num cv kv) : W.cell? ⟨w.heap.size, 0, none⟩ = some (.string nm) := by
  have h1 := h.tab
  unfold World.cell?
  rw [h1]
  rfl
set_option maxHeartbeats 8000000 in
theorem RowPairT (nm : ByteArray) (num : Int) (cv kv rv : Value) (cs : List CD) (ks : List Int) (vs : List VL) (B : Nat) (w : World) (hB : B ≤ w.heap.size) (hs : SeesC w B cv cs) (hu : SeesG (Value.int .i64) w B kv ks) (hr : SeesV w B rv vs) (hvs : ∀ v ∈ vs, VOK v)
    (hl : cs.length ≤ 140737488355328) (hkl : ks.length ≤ 140737488355328) (hnum : -9223372036854775808 ≤ num ∧ num ≤ 9223372036854775807) (hg : ErrTy w) :
    Calls Tryz.prog 7 #[.agg #[.string nm, .int .i64 num, cv, kv], rv] w fun e w' => e = .returned (.tuple #[pairV (RPK nm num cs ks vs) (RPD nm num cs ks vs), .int .i64 (RPE nm num cs ks vs)]) ∧ Below w.heap.size w w' := by
  have HN : Hid _ := RPS.new w nm num cv kv
  have HT : Hid (∀ _ : Unit, _) := fun _ => isTableT nm num cv kv cs ks B _ (by have := HN.out.size; omega) (hs.later (HN.out.below.mono hB)) (hu.later (HN.out.below.mono hB)) hl hkl
  have HG : Hid (ErrTy w) := hg
  obtain ⟨ca, cc, rfl⟩ := hs.form
  obtain ⟨ka, kc, rfl⟩ := hu.form
  obtain ⟨ra, rc, rfl⟩ := hr.form
  obtain ⟨t1, t2, t3, t4, t5, t6, t7⟩ := HN.out.cells
  have t0 := HN.out.cell0
  by_cases ht : isTb nm num cs ks = true
  · obtain ⟨f1, f2, f3⟩ := isTb_few ht
    have HR : Hid (∀ W : World, RPS w W nm num (.slice ca cs.length cc) (.slice ka ks.length kc) → Calls Tryz.prog 20 #[.agg #[.string nm, .int .i64 num, .slice ca cs.length cc, .slice ka ks.length kc], .slice ra vs.length rc] W fun e w' => e = .returned (.tuple #[pairV (rpK num cs ks vs) (rpD num cs ks vs), errO (rpE num cs ks vs)]) ∧ Below W.heap.size W w') := fun W h => rowPairT nm num _ _ _ cs ks vs B W (by have := h.size; omega) (hs.later (h.below.mono hB)) (hu.later (h.below.mono hB)) (hr.later (h.below.mono hB)) hvs f1 f2 f3 hnum
    have HK : RPK nm num cs ks vs = rpK num cs ks vs := if_pos ht
    have HD : RPD nm num cs ks vs = rpD num cs ks vs := if_pos ht
    have HE : RPE nm num cs ks vs = rpE num cs ks vs := if_pos ht
    rw [HK, HD, HE]
    have HZ : Hid (rpE num cs ks vs ≠ 0 → rpK num cs ks vs = ⟨#[]⟩ ∧ rpD num cs ks vs = ⟨#[]⟩) := fun h => ⟨if_neg h, if_neg h⟩
    rw [ht] at HT
    clear hs hu hr hvs f1 f2 f3 hg ht HK HD HE hl hkl
    generalize rpE num cs ks vs = E at *
    generalize rpK num cs ks vs = K at *
    generalize rpD num cs ks vs = D at *
    unfold tabV at HT
    go_enter Tryz.func7, Tryz.ntmps7
    go_wp2_with fail
    refine (HT.out ()).mono ?_
    rintro e w3 ⟨rfl, hb3⟩
    have HN3 : Hid (RPS w w3 nm num (.slice ca cs.length cc) (.slice ka ks.length kc)) := HN.out.later hb3 HN.out.size
    clear hb3 HT HN t0 t1 t2 t3 t4 t5 t6 t7
    obtain ⟨t1, t2, t3, t4, t5, t6, t7⟩ := HN3.out.cells
    have t0 := HN3.out.cell0
    go_wp2_with fail
    refine (HR.out w3 HN3.out).mono ?_
    rintro e w4 ⟨rfl, hb4⟩
    have HN4 : Hid (RPS w w4 nm num (.slice ca cs.length cc) (.slice ka ks.length kc)) := HN3.out.later hb4 HN3.out.size
    have HG4 : Hid (ErrTy w4) := HG.out.later HN4.out.below HG.out.pos
    clear hb4 HR HN3 t0 t1 t2 t3 t4 t5 t6 t7
    by_cases hE : E = 0
    · subst hE
      rw [errO_nil]
      unfold pairV
      go_wp2_with fail
      refine (toldP_ok K D w4).mono ?_
      rintro e w5 ⟨rfl, hb5⟩
      have HN5 : Hid (RPS w w5 nm num (.slice ca cs.length cc) (.slice ka ks.length kc)) := HN4.out.later hb5 HN4.out.size
      clear hb5 HN4
      obtain ⟨t1, t2, t3, t4, t5, t6, t7⟩ := HN5.out.cells
      obtain ⟨p1, p2⟩ := HN5.out.put K D
      unfold pairV
      go_wp2
      exact bodyPost_ret (res_row_tmp (p := 4) (ty := 28) (q := 5) rfl _ _ (w.heap.size + 1) 28 _ (0, 0) _ rfl p2 Tryz.underlying28 rfl (by kernel_rfl)) rfl ⟨rfl, p1⟩
    · rw [errO_not hE]
      have HNE : Hid (E ≠ 0) := hE
      obtain ⟨z1, z2⟩ := HZ.out hE
      subst z1 z2
      clear hE HZ
      unfold pairV
      go_wp2_with fail
      refine (toldP_err ⟨#[]⟩ ⟨#[]⟩ E HNE.out w4 HG4.out).mono ?_
      rintro e w5 ⟨rfl, hb5⟩
      have HN5 : Hid (RPS w w5 nm num (.slice ca cs.length cc) (.slice ka ks.length kc)) := HN4.out.later hb5 HN4.out.size
      clear hb5 HN4
      obtain ⟨t1, t2, t3, t4, t5, t6, t7⟩ := HN5.out.cells
      obtain ⟨p1, p2⟩ := HN5.out.put ⟨#[]⟩ ⟨#[]⟩
      unfold pairV
      go_wp2
      exact bodyPost_ret (res_row_tmp (p := 4) (ty := 28) (q := 5) rfl _ _ (w.heap.size + 1) 28 _ (0, 0) _ rfl p2 Tryz.underlying28 rfl (by kernel_rfl)) rfl ⟨rfl, p1⟩
  · have HK : RPK nm num cs ks vs = ⟨#[]⟩ := if_neg ht
    have HD : RPD nm num cs ks vs = ⟨#[]⟩ := if_neg ht
    have HE : RPE nm num cs ks vs = 169 := if_neg ht
    rw [HK, HD, HE]
    rw [show isTb nm num cs ks = false by simpa using ht] at HT
    clear hs hu hr hvs hg ht HK HD HE hl hkl
    unfold tabV at HT
    go_enter Tryz.func7, Tryz.ntmps7
    go_wp2_with fail
    refine (HT.out ()).mono ?_
    rintro e w3 ⟨rfl, hb3⟩
    have HN3 : Hid (RPS w w3 nm num (.slice ca cs.length cc) (.slice ka ks.length kc)) := HN.out.later hb3 HN.out.size
    clear hb3 HT HN t0 t1 t2 t3 t4 t5 t6 t7
    obtain ⟨t1, t2, t3, t4, t5, t6, t7⟩ := HN3.out.cells
    obtain ⟨p1, p2⟩ := HN3.out.put ⟨#[]⟩ ⟨#[]⟩
    go_wp2
    exact bodyPost_ret (res_row_tmp (p := 4) (ty := 28) (q := 5) rfl _ _ (w.heap.size + 1) 28 _ (0, 0) _ rfl p2 Tryz.underlying28 rfl (by kernel_rfl)) rfl ⟨rfl, p1⟩
end Go.Proofs.YtjcffcpmegpjeaaGreatDoor

namespace Go.Proofs.YtjcffcpmegpjeaaGreatDoor
open Go.ChangeShapes Go.WideShapes Go.ChangeAt Go.RowKit
set_option linter.unusedVariables false
set_option maxRecDepth 100000
theorem SeesC.up {w : World} {B C : Nat} {v : Value} {cs : List CD} (h : SeesC w B v cs) (hb : B ≤ C) : SeesC w C v cs := by
  obtain ⟨a, cap, h1, h2, h3⟩ := h
  exact ⟨a, cap, h1, h2, fun i hi => by obtain ⟨b, off, e1, e2, e3⟩ := h3 i hi; exact ⟨b, off, e1, by omega, e3⟩⟩
/-- What is kept of the blocks of a table and a pair that were handed over. -/
structure TPS (w W : World) (nm : ByteArray) (num : Int) (cv kv : Value) (k d : ByteArray) : Prop where
  below : Below w.heap.size w W
  tab : W.heap[w.heap.size]? = some (.cells #[.string nm, .int .i64 num, cv, kv] 25)
  pair : W.heap[w.heap.size + 1]? = some (.cells #[.string k, .string d] 28)
  size : w.heap.size + 2 ≤ W.heap.size
theorem TPS.later {w W W' : World} {nm : ByteArray} {num : Int} {cv kv : Value} {k d : ByteArray} {B : Nat} (h : TPS w W nm num cv kv k d) (hb : Below B W W') (hB : w.heap.size + 2 ≤ B) : TPS w W' nm num cv kv k d :=
  ⟨h.below.trans (hb.mono (by omega)), (hb.block _ (by omega)).trans h.tab, (hb.block _ (by omega)).trans h.pair, by have := hb.size; have := h.size; omega⟩
theorem TPS.cells {w W : World} {nm : ByteArray} {num : Int} {cv kv : Value} {k d : ByteArray} (h : TPS w W nm num cv kv k d) : W.cell? ⟨w.heap.size, 0, none⟩ = some (.string nm) ∧ W.cell? ⟨w.heap.size, 1, none⟩ = some (.int .i64 num) ∧ W.cell? ⟨w.heap.size, 2, none⟩ = some cv ∧ W.cell? ⟨w.heap.size, 3, none⟩ = some kv ∧ W.cell? ⟨w.heap.size + 1, 0, none⟩ = some (.string k) ∧ W.cell? ⟨w.heap.size + 1, 1, none⟩ = some (.string d) := by
  have h1 := h.tab
  have h2 := h.pair
  unfold World.cell?
  rw [h1, h2]
  exact ⟨rfl, rfl, rfl, rfl, rfl, rfl⟩
theorem TPS.new (w : World) (nm : ByteArray) (num : Int) (cv kv : Value) (k d : ByteArray) : TPS w ((w.alloc (.cells #[.string nm, .int .i64 num, cv, kv] 25)).alloc (.cells #[.string k, .string d] 28)) nm num cv kv k d := by
  have s1 : (w.alloc (.cells #[.string nm, .int .i64 num, cv, kv] 25)).heap.size = w.heap.size + 1 := szAl _ _
  refine ⟨((Below.refl _ _).alloc (Nat.le_refl _) _).alloc (by omega) _, ?_, ?_, by rw [szAl, s1]; omega⟩
  · rw [Below.heap_alloc _ _ _ (by omega)]; exact heap_new _ _
  · have := heap_new (w.alloc (.cells #[.string nm, .int .i64 num, cv, kv] 25)) (.cells #[.string k, .string d] 28)
    rw [s1] at this
    exact this
theorem ba_inj {x y : ByteArray} (h : x.toList = y.toList) : x = y := by
  rw [ByteArray.toList_eq, ByteArray.toList_eq] at h
  exact ByteArray.ext (Array.toList_inj.1 h)
theorem rrL_vok {s : ByteArray} (h : (rrL s 0).2.2 = 0) : ∀ v ∈ (rrL s 0).1, VOK v :=
  fun v hv => canV_wf ((rrL_form s (rrL s 0).1 (rrL s 0).2.1 (by rw [← h])).2.2 v hv)
/-- A pair is a row's. -/
def prOK (num : Int) (cs : List CD) (ks : List Int) (k d : ByteArray) : Prop := (rrL d 0).2.2 = 0 ∧ rpE num cs ks (rrL d 0).1 = 0 ∧ rpK num cs ks (rrL d 0).1 = k ∧ rpD num cs ks (rrL d 0).1 = d
set_option maxHeartbeats 8000000 in
theorem pairRowT (nm : ByteArray) (num : Int) (cv kv : Value) (k d : ByteArray) (cs : List CD) (ks : List Int) (B : Nat) (w : World) (hB : B ≤ w.heap.size) (hs : SeesC w B cv cs) (hu : SeesG (Value.int .i64) w B kv ks)
    (hks : ∀ k ∈ ks, 0 ≤ k ∧ k < (cs.length : Int)) (hkl : ks.length ≤ 8) (hcl : cs.length ≤ 16) (hnum : -9223372036854775808 ≤ num ∧ num ≤ 9223372036854775807) (hd : d.size ≤ 1125899906842624) :
    Calls Tryz.prog 27 #[.agg #[.string nm, .int .i64 num, cv, kv], pairV k d] w fun e w' => ((prOK num cs ks k d → ∃ v, e = .returned (.tuple #[v, .nilIface]) ∧ ownV w' w.heap.size v (rrL d 0).1) ∧ (¬ prOK num cs ks k d → e = .returned (.tuple #[.slice none 0 0, .iface 90 (.agg #[.int .i64 169])]))) ∧ Below w.heap.size w w' := by
  have HN : Hid _ := TPS.new w nm num cv kv k d
  obtain ⟨ca, cc, rfl⟩ := hs.form
  obtain ⟨ka, kc, rfl⟩ := hu.form
  have HRP : Hid (∀ (W : World) (rv : Value), TPS w W nm num (.slice ca cs.length cc) (.slice ka ks.length kc) k d → (rrL d 0).2.2 = 0 → ownV W (w.heap.size + 2) rv (rrL d 0).1 → Calls Tryz.prog 20 #[.agg #[.string nm, .int .i64 num, .slice ca cs.length cc, .slice ka ks.length kc], rv] W fun e w' => e = .returned (.tuple #[pairV (rpK num cs ks (rrL d 0).1) (rpD num cs ks (rrL d 0).1), errO (rpE num cs ks (rrL d 0).1)]) ∧ Below W.heap.size W w') := by
    intro W rv h h0 ho
    have hsz := h.size
    exact rowPairT nm num _ _ rv cs ks _ W.heap.size W (Nat.le_refl _) ((hs.later (h.below.mono hB)).up (by omega)) ((hu.later (h.below.mono hB)).up (by omega)) (ho.seesAll (by have := rrL_few d; omega)) (rrL_vok h0) hks hkl hcl hnum
  clear hs hu
  unfold pairV
  go_enter Tryz.func27, Tryz.ntmps27
  go_wp2_with fail
  refine (readRow_any d _ hd).mono ?_
  rintro e w3 ⟨⟨h0, h1⟩, hb3⟩
  have HN3 : Hid (TPS w w3 nm num (.slice ca cs.length cc) (.slice ka ks.length kc) k d) := HN.out.later hb3 HN.out.size
  by_cases hc : (rrL d 0).2.2 = 0
  · obtain ⟨v, rfl, hown⟩ := h0 hc
    obtain ⟨va, vn, vc, rfl⟩ := hown.form
    have HO : Hid (ownV w3 (w.heap.size + 2) (.slice va vn vc) (rrL d 0).1) := hown.down (by simp)
    have HC : Hid ((rrL d 0).2.2 = 0) := hc
    clear hown hc h0 h1 hb3 HN
    obtain ⟨t1, t2, t3, t4, t5, t6⟩ := HN3.out.cells
    go_wp2_with fail
    refine (HRP.out w3 _ HN3.out HC.out HO.out).mono ?_
    rintro e w4 ⟨rfl, hb4⟩
    have HN4 : Hid (TPS w w4 nm num (.slice ca cs.length cc) (.slice ka ks.length kc) k d) := HN3.out.later hb4 HN3.out.size
    have HO4 : Hid (ownV w4 (w.heap.size + 2) (.slice va vn vc) (rrL d 0).1) := HO.out.same (fun k hk _ => hb4.block k hk)
    have HOK : Hid (prOK num cs ks k d ↔ (rpE num cs ks (rrL d 0).1 = 0 ∧ rpK num cs ks (rrL d 0).1 = k ∧ rpD num cs ks (rrL d 0).1 = d)) := ⟨fun h => h.2, fun h => ⟨HC.out, h⟩⟩
    clear hb4 HN3 t1 t2 t3 t4 t5 t6 HO HRP
    generalize rpE num cs ks (rrL d 0).1 = E at *
    generalize rpK num cs ks (rrL d 0).1 = K at *
    generalize rpD num cs ks (rrL d 0).1 = D at *
    have HB4 : Hid (Below w4.heap.size w4 (w4.alloc (.cells #[.string K, .string D] 28))) := (Below.refl _ _).alloc (Nat.le_refl _) _
    have HN5 : Hid (TPS w (w4.alloc (.cells #[.string K, .string D] 28)) nm num (.slice ca cs.length cc) (.slice ka ks.length kc) k d) := HN4.out.later HB4.out HN4.out.size
    have HO5 : Hid (ownV (w4.alloc (.cells #[.string K, .string D] 28)) (w.heap.size + 2) (.slice va vn vc) (rrL d 0).1) := HO4.out.same (fun k hk _ => HB4.out.block k hk)
    obtain ⟨t1, t2, t3, t4, t5, t6⟩ := HN5.out.cells
    unfold pairV
    by_cases hE : E = 0
    · subst hE
      rw [errO_nil]
      by_cases hK : K.toList = k.toList
      · by_cases hD : D.toList = d.toList
        · have HY : Hid (prOK num cs ks k d) := HOK.out.2 ⟨rfl, ba_inj hK, ba_inj hD⟩
          have hKb : (K.toList == k.toList) = true := by simp [hK]
          have hDb : (D.toList == d.toList) = true := by simp [hD]
          clear HOK
          go_wp2
          go_ret2
          exact ⟨⟨fun _ => ⟨_, rfl, HO5.out.down (by omega)⟩, fun h => absurd HY.out h⟩, HN5.out.below⟩
        · have HNO : Hid (¬ prOK num cs ks k d) := fun h => hD (by rw [(HOK.out.1 h).2.2])
          have hKb : (K.toList == k.toList) = true := by simp [hK]
          have hDb : (D.toList == d.toList) = false := by simp [hD]
          clear HOK
          go_wp2
          go_ret2
          exact ⟨⟨fun h => absurd h HNO.out, fun _ => rfl⟩, HN5.out.below⟩
      · have HNO : Hid (¬ prOK num cs ks k d) := fun h => hK (by rw [(HOK.out.1 h).2.1])
        have hKb : (K.toList == k.toList) = false := by simp [hK]
        clear HOK
        go_wp2
        go_ret2
        exact ⟨⟨fun h => absurd h HNO.out, fun _ => rfl⟩, HN5.out.below⟩
    · rw [errO_not hE]
      have HNO : Hid (¬ prOK num cs ks k d) := fun h => hE (HOK.out.1 h).1
      clear hE
      go_wp2
      go_ret2
      exact ⟨⟨fun h => absurd h HNO.out, fun _ => rfl⟩, HN5.out.below⟩
  · have he := h1 hc
    subst he
    have HNO : Hid (¬ prOK num cs ks k d) := fun h => absurd h.1 hc
    generalize (rrL d 0).2.2 = E at *
    have hcb : (E != 0) = true := by simp; exact hc
    clear h0 h1 hc hb3 HN
    go_wp2
    go_ret2
    exact ⟨⟨fun h => absurd h HNO.out, fun _ => rfl⟩, HN3.out.below⟩
/-- A pair is a row's, of a table. -/
def PROK (nm : ByteArray) (num : Int) (cs : List CD) (ks : List Int) (k d : ByteArray) : Prop := (rrL d 0).2.2 = 0 ∧ RPE nm num cs ks (rrL d 0).1 = 0 ∧ RPK nm num cs ks (rrL d 0).1 = k ∧ RPD nm num cs ks (rrL d 0).1 = d
theorem PROK_tb {nm : ByteArray} {num : Int} {cs : List CD} {ks : List Int} {k d : ByteArray} (h : isTb nm num cs ks = true) : PROK nm num cs ks k d ↔ prOK num cs ks k d := by
  unfold PROK prOK RPE RPK RPD
  rw [if_pos h, if_pos h, if_pos h]
theorem PROK_no {nm : ByteArray} {num : Int} {cs : List CD} {ks : List Int} {k d : ByteArray} (h : ¬ isTb nm num cs ks = true) : ¬ PROK nm num cs ks k d := by
  unfold PROK RPE
  rw [if_neg h]
  rintro ⟨-, h, -⟩
  exact absurd h (by decide)
/-- What both PairRows answer. -/
def PRo (w : World) (OK : Prop) (vs : List VL) (e : Ending) (w' : World) : Prop :=
  ((OK → ∃ v, e = .returned (.tuple #[v, .int .i64 0]) ∧ ownV w' w.heap.size v vs) ∧ (¬ OK → e = .returned (.tuple #[.slice none 0 0, .int .i64 169]))) ∧ Below w.heap.size w w'
set_option maxHeartbeats 8000000 in
theorem PairRowT (nm : ByteArray) (num : Int) (cv kv : Value) (k d : ByteArray) (cs : List CD) (ks : List Int) (B : Nat) (w : World) (hB : B ≤ w.heap.size) (hs : SeesC w B cv cs) (hu : SeesG (Value.int .i64) w B kv ks)
    (hl : cs.length ≤ 140737488355328) (hkl : ks.length ≤ 140737488355328) (hnum : -9223372036854775808 ≤ num ∧ num ≤ 9223372036854775807) (hd : d.size ≤ 1125899906842624) (hg : ErrTy w) :
    Calls Tryz.prog 10 #[.agg #[.string nm, .int .i64 num, cv, kv], pairV k d] w (PRo w (PROK nm num cs ks k d) (rrL d 0).1) := by
  have HN : Hid _ := TPS.new w nm num cv kv k d
  have HT : Hid (∀ _ : Unit, _) := fun _ => isTableT nm num cv kv cs ks B _ (by have := HN.out.size; omega) (hs.later (HN.out.below.mono hB)) (hu.later (HN.out.below.mono hB)) hl hkl
  have HG : Hid (ErrTy w) := hg
  obtain ⟨ca, cc, rfl⟩ := hs.form
  obtain ⟨ka, kc, rfl⟩ := hu.form
  obtain ⟨t1, t2, t3, t4, t5, t6⟩ := HN.out.cells
  by_cases ht : isTb nm num cs ks = true
  · obtain ⟨f1, f2, f3⟩ := isTb_few ht
    have HR : Hid (∀ W : World, TPS w W nm num (.slice ca cs.length cc) (.slice ka ks.length kc) k d → _) := fun W (h : TPS w W nm num (.slice ca cs.length cc) (.slice ka ks.length kc) k d) => pairRowT nm num _ _ k d cs ks B W (by have := h.size; omega) (hs.later (h.below.mono hB)) (hu.later (h.below.mono hB)) f1 f2 f3 hnum hd
    rw [ht] at HT
    have HP : Hid (PROK nm num cs ks k d ↔ prOK num cs ks k d) := PROK_tb ht
    clear hs hu f1 f2 f3 hg ht hl hkl
    unfold tabV at HT
    unfold pairV at HR ⊢
    go_enter Tryz.func10, Tryz.ntmps10
    go_wp2_with fail
    refine (HT.out ()).mono ?_
    rintro e w3 ⟨rfl, hb3⟩
    have HN3 : Hid (TPS w w3 nm num (.slice ca cs.length cc) (.slice ka ks.length kc) k d) := HN.out.later hb3 HN.out.size
    clear hb3 HT HN t1 t2 t3 t4 t5 t6
    obtain ⟨t1, t2, t3, t4, t5, t6⟩ := HN3.out.cells
    go_wp2_with fail
    refine (HR.out w3 HN3.out).mono ?_
    rintro e w4 ⟨⟨h0, h1⟩, hb4⟩
    have HN4 : Hid (TPS w w4 nm num (.slice ca cs.length cc) (.slice ka ks.length kc) k d) := HN3.out.later hb4 HN3.out.size
    have HG4 : Hid (ErrTy w4) := HG.out.later HN4.out.below HG.out.pos
    have HS3 : Hid (w.heap.size ≤ w3.heap.size) := HN3.out.below.size
    clear hb4 HR HN3 t1 t2 t3 t4 t5 t6
    by_cases hok : prOK num cs ks k d
    · obtain ⟨v, rfl, hown⟩ := h0 hok
      obtain ⟨va, vn, vc, rfl⟩ := hown.form
      have HO : Hid (ownV w4 w.heap.size (.slice va vn vc) (rrL d 0).1) := hown.down HS3.out
      have HY : Hid (PROK nm num cs ks k d) := HP.out.2 hok
      clear hown hok h0 h1 HP
      go_wp2_with fail
      refine (toldV_ok _ w4).mono ?_
      rintro e w5 ⟨rfl, hb5⟩
      have HO5 : Hid (ownV w5 w.heap.size (.slice va vn vc) (rrL d 0).1) := HO.out.same (fun k hk _ => hb5.block k hk)
      have HN5 : Hid (TPS w w5 nm num (.slice ca cs.length cc) (.slice ka ks.length kc) k d) := HN4.out.later hb5 HN4.out.size
      clear hb5 HN4 HO
      go_wp2
      go_ret2
      exact ⟨⟨fun _ => ⟨_, rfl, HO5.out⟩, fun h => absurd HY.out h⟩, HN5.out.below⟩
    · have he := h1 hok
      subst he
      have HNO : Hid (¬ PROK nm num cs ks k d) := fun h => hok (HP.out.1 h)
      clear h0 h1 hok HP
      go_wp2_with fail
      refine (toldV_err _ 169 (by decide) w4 HG4.out).mono ?_
      rintro e w5 ⟨rfl, hb5⟩
      have HN5 : Hid (TPS w w5 nm num (.slice ca cs.length cc) (.slice ka ks.length kc) k d) := HN4.out.later hb5 HN4.out.size
      clear hb5 HN4
      go_wp2
      go_ret2
      exact ⟨⟨fun h => absurd h HNO.out, fun _ => rfl⟩, HN5.out.below⟩
  · have HNO : Hid (¬ PROK nm num cs ks k d) := PROK_no ht
    rw [show isTb nm num cs ks = false by simpa using ht] at HT
    clear hs hu hg ht hl hkl
    unfold tabV at HT
    unfold pairV
    go_enter Tryz.func10, Tryz.ntmps10
    go_wp2_with fail
    refine (HT.out ()).mono ?_
    rintro e w3 ⟨rfl, hb3⟩
    have HN3 : Hid (TPS w w3 nm num (.slice ca cs.length cc) (.slice ka ks.length kc) k d) := HN.out.later hb3 HN.out.size
    clear hb3 HT HN t1 t2 t3 t4 t5 t6
    go_wp2
    go_ret2
    exact ⟨⟨fun h => absurd h HNO.out, fun _ => rfl⟩, HN3.out.below⟩
end Go.Proofs.YtjcffcpmegpjeaaGreatDoor
