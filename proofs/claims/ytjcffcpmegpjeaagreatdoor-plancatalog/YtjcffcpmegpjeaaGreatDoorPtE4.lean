import Derived.Test.YtjcffcpmegpjeaaGreatDoorPnLaw
namespace Go.Proofs.YtjcffcpmegpjeaaGreatDoor
set_option linter.unusedSimpArgs false
open Go.ChangeShapes Go.WideShapes Go.ChangeAt Go.RowKit
set_option linter.unusedVariables false
set_option maxRecDepth 100000
theorem textVT (s : ByteArray) (w : World) : Calls Tryz.prog 90 #[.string s] w fun e w' => e = .returned (.agg #[.int .i64 3, .int .i64 0, .string s]) ∧ Below w.heap.size w w' := by
  go_enter Tryz.func90, Tryz.ntmps90
  go_wp2
  exact bodyPost_ret (results_cell_row (p := 2) (ty := 59) rfl _ _ w.heap.size 59 _ (0, 0) _ rfl (heap_new _ _) Tryz.underlying59 rfl (by kernel_rfl)) rfl ⟨rfl, boxVal w (3, 0, s)⟩
theorem textR (s : ByteArray) (w : World) : Calls Tryz.prog 64 #[.string s] w fun e w' => e = .returned (.agg #[.int .i64 3, .int .i64 0, .string s]) ∧ Below w.heap.size w w' := by
  have HB : Hid (Below w.heap.size w ((w.alloc (.cells #[.int .i64 3, .int .i64 0, .string s] 59)).alloc (.cells #[.int .i64 3, .int .i64 0, .string s] 59))) := ((Below.refl _ _).alloc (Nat.le_refl _) _).alloc (by rw [szAl]; omega) _
  go_enter Tryz.func64, Tryz.ntmps64
  go_wp2
  exact bodyPost_ret (results_cell_row (p := 2) (ty := 59) rfl _ _ w.heap.size 59 _ (0, 0) _ rfl ((Below.heap_alloc _ _ _ (by rw [szAl]; omega)).trans (heap_new _ _)) Tryz.underlying59 rfl (by kernel_rfl)) rfl ⟨rfl, HB.out⟩
/-- A name's key in the catalog. -/
def catV (n : ByteArray) : List VL := [(2, 0, ⟨#[]⟩), (3, 0, n)]
def catK (n : ByteArray) : ByteArray := strOfNums (keyL (catV n))
theorem own_new2 (w : World) (B : Nat) (u v : VL) (hB : B ≤ w.heap.size) : ownV (w.alloc (.cells #[.int .i64 u.1, .int .i64 u.2.1, .string u.2.2, .int .i64 v.1, .int .i64 v.2.1, .string v.2.2] 59)) B (.slice (some ⟨w.heap.size, 0, none⟩) 2 2) [u, v] :=
  ⟨rfl, Or.inr ⟨w.heap.size, 2, _, rfl, hB, heap_new _ _, Nat.le_refl _, by unfold maxLen; omega, rfl, rfl⟩⟩
theorem cat_ok {n : ByteArray} (h : n.size ≤ 32) : (∀ v ∈ catV n, VOK v) ∧ faultL (catV n) = 0 := by
  constructor
  · intro v hv
    unfold catV at hv
    simp only [List.mem_cons, List.not_mem_nil, or_false] at hv
    rcases hv with rfl | rfl
    · exact ⟨by show ByteArray.size ⟨#[]⟩ ≤ 9223372036854775807; decide, by decide, by decide⟩
    · exact ⟨by show n.size ≤ 9223372036854775807; omega, by show (-9223372036854775808 : Int) ≤ 0; decide, by show (0 : Int) ≤ 9223372036854775807; decide⟩
  · refine fault_all _ (fun v hv => ?_)
    unfold catV at hv
    simp only [List.mem_cons, List.not_mem_nil, or_false] at hv
    rcases hv with rfl | rfl
    · exact faultV_int 0
    · unfold faultV fault2 fault3
      simp
      omega
set_option maxHeartbeats 4000000 in
theorem nameKeyT (n : ByteArray) (hn : n.size ≤ 32) (w : World) : Calls Tryz.prog 63 #[.string n] w fun e w' => e = .returned (.string (catK n)) ∧ Below w.heap.size w w' := by
  obtain ⟨o1, o2⟩ := cat_ok hn
  have HKC : Hid (∀ (W : World) (a : Value), ownV W W.heap.size a (catV n) ∨ (∃ B, ownV W B a (catV n)) → Calls Tryz.prog 52 #[a] W fun e w' => e = .returned (.string (catK n)) ∧ Below W.heap.size W w') := by
    intro W a h
    obtain ⟨B, h⟩ : ∃ B, ownV W B a (catV n) := by rcases h with h | h; exact ⟨_, h⟩; exact h
    exact keyOfT a (catV n) W.heap.size W (Nat.le_refl _) (h.seesAll (by simp [catV])) o1 (by simp [catV]) o2
  clear o1 o2
  generalize catK n = K at *
  go_enter Tryz.func63, Tryz.ntmps63
  go_wp2_with fail
  refine (intValT 0 w).mono ?_
  rintro e w1 ⟨rfl, hb1⟩
  go_wp2_with fail
  refine (textVT n w1).mono ?_
  rintro e w2 ⟨rfl, hb2⟩
  have HB2 : Hid (Below w.heap.size w w2) := hb1.trans (hb2.mono hb1.size)
  have HO : Hid (ownV (w2.alloc (.cells #[.int .i64 2, .int .i64 0, .string ⟨#[]⟩, .int .i64 3, .int .i64 0, .string n] 59)) w2.heap.size (.slice (some ⟨w2.heap.size, 0, none⟩) 2 2) (catV n)) := own_new2 w2 w2.heap.size (2, 0, ⟨#[]⟩) (3, 0, n) (Nat.le_refl _)
  have HB3 : Hid (Below w.heap.size w (w2.alloc (.cells #[.int .i64 2, .int .i64 0, .string ⟨#[]⟩, .int .i64 3, .int .i64 0, .string n] 59))) := HB2.out.alloc HB2.out.size _
  clear hb1 hb2
  go_wp2_with fail
  refine (HKC.out _ _ (Or.inr ⟨_, HO.out⟩)).mono ?_
  rintro e w4 ⟨rfl, hb4⟩
  have HB4 : Hid (Below w.heap.size w w4) := HB3.out.trans (hb4.mono HB3.out.size)
  go_wp2
  go_ret
  exact ⟨rfl, HB4.out⟩
set_option maxHeartbeats 4000000 in
theorem catKeyR (n : ByteArray) (hn : n.size ≤ 32) (w : World) : Calls Tryz.prog 31 #[.string n] w fun e w' => e = .returned (.string (catK n)) ∧ Below w.heap.size w w' := by
  obtain ⟨o1, o2⟩ := cat_ok hn
  have HKC : Hid (∀ (W : World) (a : Value) (B : Nat), ownV W B a (catV n) → Calls Tryz.prog 24 #[a] W fun e w' => e = .returned (.tuple #[.string (catK n), .int .i64 0]) ∧ Below W.heap.size W w') := by
    intro W a B h
    exact (ref_keyG a (catV n) W.heap.size W (Nat.le_refl _) (h.seesAll (by simp [catV])) o1).mono fun e w' h => ⟨h.1.trans (by rw [if_neg (by simp [catV]), if_pos o2]; rfl), h.2⟩
  clear o1 o2
  generalize catK n = K at *
  go_enter Tryz.func31, Tryz.ntmps31
  go_wp2_with fail
  refine (intR 0 w).mono ?_
  rintro e w1 ⟨rfl, hb1⟩
  go_wp2_with fail
  refine (textR n w1).mono ?_
  rintro e w2 ⟨rfl, hb2⟩
  have HB2 : Hid (Below w.heap.size w w2) := hb1.trans (hb2.mono hb1.size)
  have HO : Hid (ownV (w2.alloc (.cells #[.int .i64 2, .int .i64 0, .string ⟨#[]⟩, .int .i64 3, .int .i64 0, .string n] 59)) w2.heap.size (.slice (some ⟨w2.heap.size, 0, none⟩) 2 2) (catV n)) := own_new2 w2 w2.heap.size (2, 0, ⟨#[]⟩) (3, 0, n) (Nat.le_refl _)
  have HB3 : Hid (Below w.heap.size w (w2.alloc (.cells #[.int .i64 2, .int .i64 0, .string ⟨#[]⟩, .int .i64 3, .int .i64 0, .string n] 59))) := HB2.out.alloc HB2.out.size _
  clear hb1 hb2
  go_wp2_with fail
  refine (HKC.out _ _ _ HO.out).mono ?_
  rintro e w4 ⟨rfl, hb4⟩
  have HB4 : Hid (Below w.heap.size w w4) := HB3.out.trans (hb4.mono HB3.out.size)
  go_wp2
  go_ret
  exact ⟨rfl, HB4.out⟩
end Go.Proofs.YtjcffcpmegpjeaaGreatDoor

namespace Go.Proofs.YtjcffcpmegpjeaaGreatDoor
set_option linter.unusedSimpArgs false
open Go.ChangeShapes Go.WideShapes Go.ChangeAt Go.RowKit
set_option linter.unusedVariables false
set_option maxRecDepth 100000
/-- What a column is laid down as, behind d. -/
def kdC (c : CD) : Int := if c.2.2 then c.2.1 + 4 else c.2.1
def nmD (c : CD) : ByteArray := strOfNums (uvB (c.1.size : Int)) ++ c.1
def colD (d : ByteArray) (c : CD) : ByteArray := d ++ (nmD c ++ strOfNums [kdC c])
def keyD (d : ByteArray) (k : Int) : ByteArray := d ++ strOfNums (uvB k)
def begD (num : Int) (cs : List CD) : ByteArray := strOfNums (uvB num) ++ strOfNums (uvB (cs.length : Int))
def colsD (num : Int) (cs : List CD) (n : Nat) : ByteArray := (cs.take n).foldl colD (begD num cs)
def midD (num : Int) (cs : List CD) (ks : List Int) : ByteArray := colsD num cs cs.length ++ strOfNums (uvB (ks.length : Int))
def keysD (num : Int) (cs : List CD) (ks : List Int) (n : Nat) : ByteArray := (ks.take n).foldl keyD (midD num cs ks)
/-- A table's data in the catalog. -/
def tabD (num : Int) (cs : List CD) (ks : List Int) : ByteArray := keysD num cs ks ks.length
theorem colsD_next {num : Int} {cs : List CD} {n : Nat} (h : n < cs.length) : colsD num cs (n + 1) = colD (colsD num cs n) cs[n] := by
  unfold colsD
  rw [List.take_succ_eq_append_getElem h, List.foldl_append]
  rfl
theorem keysD_next {num : Int} {cs : List CD} {ks : List Int} {n : Nat} (h : n < ks.length) : keysD num cs ks (n + 1) = keyD (keysD num cs ks n) ks[n] := by
  unfold keysD
  rw [List.take_succ_eq_append_getElem h, List.foldl_append]
  rfl
theorem nmD_size {c : CD} (h : c.1.size ≤ 32) : (nmD c).size ≤ 42 := by
  unfold nmD
  have h1 := uvB_len (c.1.size : Int)
  rw [ByteArray.size_append, strOfNums_size]
  omega
theorem colD_size {d : ByteArray} {c : CD} (h : c.1.size ≤ 32) : (colD d c).size ≤ d.size + 43 := by
  unfold colD
  have h1 := nmD_size h
  rw [ByteArray.size_append, ByteArray.size_append, strOfNums_size]
  simp
  omega
theorem begD_size (num : Int) (cs : List CD) : (begD num cs).size ≤ 20 := by
  unfold begD
  have h1 := uvB_len num
  have h2 := uvB_len (cs.length : Int)
  rw [ByteArray.size_append, strOfNums_size, strOfNums_size]
  omega
theorem colsD_size {num : Int} {cs : List CD} (hc : ∀ j (h : j < cs.length), cs[j].1.size ≤ 32) : ∀ n, n ≤ cs.length → (colsD num cs n).size ≤ 20 + 43 * n
  | 0, _ => by unfold colsD; simp; exact begD_size num cs
  | n + 1, h => by
    rw [colsD_next (by omega)]
    have h1 := colD_size (d := colsD num cs n) (hc n (by omega))
    have h2 := colsD_size (num := num) hc n (by omega)
    omega
theorem keysD_size {num : Int} {cs : List CD} {ks : List Int} (hc : ∀ j (h : j < cs.length), cs[j].1.size ≤ 32) (hl : cs.length ≤ 16) : ∀ n, n ≤ ks.length → (keysD num cs ks n).size ≤ 720 + 10 * n
  | 0, _ => by
    unfold keysD midD
    have h1 := uvB_len (ks.length : Int)
    have h2 := colsD_size (num := num) hc cs.length (Nat.le_refl _)
    simp only [List.take_zero, List.foldl_nil]
    rw [ByteArray.size_append, strOfNums_size]
    omega
  | n + 1, h => by
    rw [keysD_next (by omega)]
    unfold keyD
    have h1 := uvB_len ks[n]
    have h2 := keysD_size (num := num) (ks := ks) hc hl n (by omega)
    rw [ByteArray.size_append, strOfNums_size]
    omega
/-- What the catalog's pair of a table is. -/
def enE (nm : ByteArray) (num : Int) (cs : List CD) (ks : List Int) : Int := if isTb nm num cs ks then (if 512 < (tabD num cs ks).size then 4 else 0) else 169
def enK (nm : ByteArray) (num : Int) (cs : List CD) (ks : List Int) : ByteArray := if enE nm num cs ks = 0 then catK nm else ⟨#[]⟩
def enD (nm : ByteArray) (num : Int) (cs : List CD) (ks : List Int) : ByteArray := if enE nm num cs ks = 0 then tabD num cs ks else ⟨#[]⟩
theorem isTb_parts {nm : ByteArray} {num : Int} {cs : List CD} {ks : List Int} (h : isTb nm num cs ks = true) : nm.size ≤ 32 ∧ 1 ≤ num ∧ (∀ j (h : j < cs.length), cs[j].1.size ≤ 32 ∧ 1 ≤ cs[j].2.1 ∧ cs[j].2.1 ≤ 3) := by
  obtain ⟨h1, h2, h3, h4, h5, h6⟩ := (isTb_iff nm num cs ks).1 h
  refine ⟨h1.2, h2, fun j hj => ?_⟩
  have := (h5 j hj).1
  unfold okCo okNm okTy at this
  simp only [Bool.and_eq_true, Bool.or_eq_true, decide_eq_true_eq] at this
  obtain ⟨⟨a, b⟩, c⟩ := this
  refine ⟨b, ?_, ?_⟩ <;> rcases c with c | c | c <;> omega
theorem blobS (s : ByteArray) (w : World) (hz : s.size ≤ 32) : Calls Tryz.prog 62 #[.string s] w fun e w' => e = .returned (.tuple #[.string (strOfNums (uvB (s.size : Int)) ++ s), .int .i64 0]) ∧ Below w.heap.size w w' := by
  have hadd : ∀ (w : World), (Op.stringOp .add (strOfNums (uvB s.size)) s).run Tryz.prog w = .ok (.string (strOfNums (uvB s.size) ++ s)) w := fun w => run_string_add_sum w _ _ (by rw [strOfNums_size]; have := uvB_len s.size; omega)
  go_enter Tryz.func62, Tryz.ntmps62
  go_wp2_with fail
  refine (uvarint _ _ (by omega) (by omega)).mono ?_
  rintro e w1 ⟨rfl, hbel⟩
  have HB : Hid _ := hbel
  clear hbel
  go_wp2
  go_ret2
  exact ⟨rfl, HB.out⟩
end Go.Proofs.YtjcffcpmegpjeaaGreatDoor

namespace Go.Proofs.YtjcffcpmegpjeaaGreatDoor
set_option linter.unusedSimpArgs false
open Go.ChangeShapes Go.WideShapes Go.ChangeAt Go.RowKit
set_option linter.unusedVariables false
set_option maxRecDepth 100000
theorem en_err {nm : ByteArray} {num : Int} {cs : List CD} {ks : List Int} {E : Int} (h : enE nm num cs ks = E) (hE : E ≠ 0) : Value.tuple #[pairV (enK nm num cs ks) (enD nm num cs ks), errO (enE nm num cs ks)] = .tuple #[.agg #[.string ⟨#[]⟩, .string ⟨#[]⟩], .iface 90 (.agg #[.int .i64 E])] := by
  unfold enK enD pairV
  rw [h, if_neg hE, if_neg hE, errO_not hE]
theorem en_ok {nm : ByteArray} {num : Int} {cs : List CD} {ks : List Int} (h : enE nm num cs ks = 0) : Value.tuple #[pairV (enK nm num cs ks) (enD nm num cs ks), errO (enE nm num cs ks)] = .tuple #[.agg #[.string (catK nm), .string (tabD num cs ks)], .nilIface] := by
  unfold enK enD pairV
  rw [h, if_pos rfl, if_pos rfl, errO_nil]
theorem addS (a b : ByteArray) (h : a.size + b.size ≤ 9223372036854775807) (w : World) : (Op.stringOp .add a b).run Tryz.prog w = .ok (.string (a ++ b)) w := run_string_add_sum w _ _ h
theorem own_newB (w : World) (B : Nat) (x : Int) (hB : B ≤ w.heap.size) : ownB (w.alloc (.cells #[.int .u8 x] 5)) B (.slice (some ⟨w.heap.size, 0, none⟩) 1 1) [x] :=
  ⟨rfl, Or.inr ⟨w.heap.size, 1, _, rfl, hB, heap_new _ _, Nat.le_refl _, by unfold maxLen; omega, rfl, rfl⟩⟩
set_option maxHeartbeats 8000000 in
theorem encTabT (nm : ByteArray) (num : Int) (cv kv : Value) (cs : List CD) (ks : List Int) (B : Nat) (w : World) (hB : B ≤ w.heap.size) (hs : SeesC w B cv cs) (hu : SeesG (Value.int .i64) w B kv ks)
    (hl : cs.length ≤ 140737488355328) (hkl : ks.length ≤ 140737488355328) (hnum : -9223372036854775808 ≤ num ∧ num ≤ 9223372036854775807) :
    Calls Tryz.prog 29 #[.agg #[.string nm, .int .i64 num, cv, kv]] w fun e w' => e = .returned (.tuple #[pairV (enK nm num cs ks) (enD nm num cs ks), errO (enE nm num cs ks)]) ∧ Below w.heap.size w w' := by
  obtain ⟨ca, cc, rfl⟩ := hs.form
  obtain ⟨ka, kc, rfl⟩ := hu.form
  have HN : Hid _ := RPS.new w nm num (.slice ca cs.length cc) (.slice ka ks.length kc)
  have HT : Hid (∀ _ : Unit, _) := fun _ => isTableT nm num (.slice ca cs.length cc) (.slice ka ks.length kc) cs ks B _ (by have := HN.out.size; omega) (hs.later (HN.out.below.mono hB)) (hu.later (HN.out.below.mono hB)) hl hkl
  have HSC : Hid (SeesC w B (.slice ca cs.length cc) cs) := hs
  have HSK : Hid (SeesG (Value.int .i64) w B (.slice ka ks.length kc) ks) := hu
  clear hs hu
  obtain ⟨t1, t2, t3, t4, t5, t6, t7⟩ := HN.out.cells
  have t0 := HN.out.cell0
  by_cases ht : isTb nm num cs ks = true
  · obtain ⟨f1, f2, f3⟩ := isTb_few ht
    obtain ⟨g1, g2, g3⟩ := isTb_parts ht
    have HKS : Hid (∀ k ∈ ks, 0 ≤ k ∧ k < (cs.length : Int)) := f1
    have HCS : Hid (∀ j (h : j < cs.length), cs[j].1.size ≤ 32 ∧ 1 ≤ cs[j].2.1 ∧ cs[j].2.1 ≤ 3) := g3
    have HE0 : Hid (enE nm num cs ks = if 512 < (tabD num cs ks).size then 4 else 0) := if_pos ht
    have HCZ : Hid (∀ n, n ≤ cs.length → (colsD num cs n).size ≤ 20 + 43 * n) := colsD_size (fun j h => (g3 j h).1)
    have HKZ : Hid (∀ n, n ≤ ks.length → (keysD num cs ks n).size ≤ 720 + 10 * n) := keysD_size (fun j h => (g3 j h).1) f3
    rw [ht] at HT
    clear ht f1 g3 hl hkl
    unfold tabV at HT
    go_enter Tryz.func29, Tryz.ntmps29
    go_wp2_with fail
    refine (HT.out ()).mono ?_
    rintro e w3 ⟨rfl, hb3⟩
    have HN3 : Hid (RPS w w3 nm num (.slice ca cs.length cc) (.slice ka ks.length kc)) := HN.out.later hb3 HN.out.size
    clear hb3 HT HN t0 t1 t2 t3 t4 t5 t6 t7
    obtain ⟨t1, t2, t3, t4, t5, t6, t7⟩ := HN3.out.cells
    have hszr := HN3.out.size
    have hwn : IntKind.u64.wrap num = num := by rw [IntKind.wrap_u64]; omega
    have hwl : IntKind.u64.wrap (cs.length : Int) = (cs.length : Int) := by rw [IntKind.wrap_u64]; omega
    have HU1 : Hid (∀ W, _) := fun W => uvarint num W (by omega) (by omega)
    have HU2 : Hid (∀ W, _) := fun W => uvarint (cs.length : Int) W (by omega) (by omega)
    have hadd : ∀ W : World, (Op.stringOp .add (strOfNums (uvB num)) (strOfNums (uvB (cs.length : Int)))).run Tryz.prog W = .ok (.string (begD num cs)) W := fun W => addS _ _ (by rw [strOfNums_size, strOfNums_size]; have := uvB_len num; have := uvB_len (cs.length : Int); omega) W
    have HC0 : Hid (colsD num cs 0 = begD num cs) := rfl
    go_wp2_with fail
    (refine wp_region_held_drew (S := (fun w' => w'.cell? ⟨w.heap.size, 1, none⟩ = some (.int .i64 num) ∧ w'.cell? ⟨w.heap.size, 2, none⟩ = some (.slice ca cs.length cc))) (by kernel_rfl) ⟨t1, t2⟩ (fun hHeld => ?_); simp only [List.size_toArray, List.length_cons, List.length_nil, Nat.reduceAdd, Array.replicate_succ, Array.replicate_zero, List.push_toArray, List.append_toArray, List.nil_append, List.cons_append])
    (refine tk0 (v := ?_) (by kernel_rfl) (by kernel_rfl) (by kernel_rfl) (fun _ _ _ h => h) (Or.inl ⟨by rfl, ?_⟩) (by assumption) ?_; rotate_left; (focus (intro w hSw; (try dsimp only at hSw); go_simp; (try first | (rw [dif_pos (by omega)]; simp only [Result.andThen_ok]) | rw [if_pos (by omega)]); (try with_reducible rfl); done)); try simp only [Act.put, List.setIfInBounds_toArray, List.set_cons_zero, List.set_cons_succ])
    (refine tk1 (v := ?_) (by kernel_rfl) (by kernel_rfl) (by kernel_rfl) (fun _ _ _ h => h) (Or.inl ⟨by rfl, ?_⟩) (by assumption) ?_; rotate_left; (focus (intro w hSw; (try dsimp only at hSw); go_simp; (try first | (rw [dif_pos (by omega)]; simp only [Result.andThen_ok]) | rw [if_pos (by omega)]); (try with_reducible rfl); done)); try simp only [Act.put, List.setIfInBounds_toArray, List.set_cons_zero, List.set_cons_succ])
    (refine tk2 (v := ?_) (by kernel_rfl) (by kernel_rfl) (by kernel_rfl) (fun _ _ _ h => h) (Or.inl ⟨by rfl, ?_⟩) (by assumption) ?_; rotate_left; (focus (intro w hSw; (try dsimp only at hSw); go_simp; (try first | (rw [dif_pos (by omega)]; simp only [Result.andThen_ok]) | rw [if_pos (by omega)]); (try with_reducible rfl); done)); try simp only [Act.put, List.setIfInBounds_toArray, List.set_cons_zero, List.set_cons_succ])
    (refine tk4 (v := ?_) (by kernel_rfl) (by kernel_rfl) (by kernel_rfl) (fun _ _ _ h => h) (Or.inl ⟨by rfl, ?_⟩) (by assumption) ?_; rotate_left; (focus (intro w hSw; (try dsimp only at hSw); go_simp; (try first | (rw [dif_pos (by omega)]; simp only [Result.andThen_ok]) | rw [if_pos (by omega)]); (try with_reducible rfl); done)); try simp only [Act.put, List.setIfInBounds_toArray, List.set_cons_zero, List.set_cons_succ])
    (refine tk5 (v := ?_) (by kernel_rfl) (by kernel_rfl) (by kernel_rfl) (fun _ _ _ h => h) (Or.inl ⟨by rfl, ?_⟩) (by assumption) ?_; rotate_left; (focus (intro w hSw; (try dsimp only at hSw); go_simp; (try first | (rw [dif_pos (by omega)]; simp only [Result.andThen_ok]) | rw [if_pos (by omega)]); (try with_reducible rfl); done)); try simp only [Act.put, List.setIfInBounds_toArray, List.set_cons_zero, List.set_cons_succ])
    (refine tk6 (v := ?_) (by kernel_rfl) (by kernel_rfl) (by kernel_rfl) (fun _ _ _ h => h) (Or.inl ⟨by rfl, ?_⟩) (by assumption) ?_; rotate_left; (focus (intro w hSw; (try dsimp only at hSw); go_simp; (try first | (rw [dif_pos (by omega)]; simp only [Result.andThen_ok]) | rw [if_pos (by omega)]); (try with_reducible rfl); done)); try simp only [Act.put, List.setIfInBounds_toArray, List.set_cons_zero, List.set_cons_succ])
    (refine tk7 (v := ?_) (by kernel_rfl) (by kernel_rfl) (by kernel_rfl) (fun _ _ _ h => h) (Or.inl ⟨by rfl, ?_⟩) (by assumption) ?_; rotate_left; (focus (intro w hSw; (try dsimp only at hSw); go_simp; (try first | (rw [dif_pos (by omega)]; simp only [Result.andThen_ok]) | rw [if_pos (by omega)]); (try with_reducible rfl); done)); try simp only [Act.put, List.setIfInBounds_toArray, List.set_cons_zero, List.set_cons_succ])
    (refine wpAnyH_ready (rs := [3]) (by kernel_rfl) (by simp) ?_; refine ar3 (fun K hK => ?_) AllReadyH.nil; go_simp)
    go_at_call 61
    refine (HU1.out _).mono ?_
    rintro e w4 ⟨rfl, hb4⟩
    have hbW : Below w3.heap.size w3 w4 := ⟨hb4.os, hb4.tape, hb4.output, hb4.size, hb4.block⟩
    have HN4 : Hid (RPS w w4 nm num (.slice ca cs.length cc) (.slice ka ks.length kc)) := HN3.out.later hbW hszr
    clear hb4 hbW HN3 t1 t2 t3 t4 t5 t6 t7 HU1
    obtain ⟨t1, t2, t3, t4, t5, t6, t7⟩ := HN4.out.cells
    have hszr4 := HN4.out.size
    go_wp2_with fail
    (refine hK.out _ _ ⟨t1, t2⟩ (fun hHeld => ?_); clear hK K; try simp only [Act.put, List.setIfInBounds_toArray, List.set_cons_zero, List.set_cons_succ])
    (refine wpAnyH_ready (rs := [8]) (by kernel_rfl) (by simp) ?_; refine ar8 (fun K hK => ?_) AllReadyH.nil; go_simp)
    go_at_call 61
    refine (HU2.out _).mono ?_
    rintro e w5 ⟨rfl, hb5⟩
    have hbW : Below w4.heap.size w4 w5 := ⟨hb5.os, hb5.tape, hb5.output, hb5.size, hb5.block⟩
    have HN5 : Hid (RPS w w5 nm num (.slice ca cs.length cc) (.slice ka ks.length kc)) := HN4.out.later hbW hszr4
    clear hb5 hbW HN4 t1 t2 t3 t4 t5 t6 t7 HU2
    obtain ⟨t1, t2, t3, t4, t5, t6, t7⟩ := HN5.out.cells
    go_wp2_with fail
    (refine hK.out _ _ ⟨t1, t2⟩ (fun hHeld => ?_); clear hK K; try simp only [Act.put, List.setIfInBounds_toArray, List.set_cons_zero, List.set_cons_succ])
    (refine tk9 (v := ?_) (by kernel_rfl) (by kernel_rfl) (by kernel_rfl) (fun _ _ _ h => h) (Or.inl ⟨by rfl, ?_⟩) (by assumption) ?_; rotate_left; (focus (intro w hSw; (try dsimp only at hSw); go_simp; (try first | (rw [dif_pos (by omega)]; simp only [Result.andThen_ok]) | rw [if_pos (by omega)]); (try with_reducible rfl); done)); try simp only [Act.put, List.setIfInBounds_toArray, List.set_cons_zero, List.set_cons_succ])
    (refine tk10 (v := ?_) (by kernel_rfl) (by kernel_rfl) (by kernel_rfl) (fun _ _ _ h => h) (Or.inl ⟨by rfl, ?_⟩) (by assumption) ?_; rotate_left; (focus (intro w hSw; (try dsimp only at hSw); go_simp; (try first | (rw [dif_pos (by omega)]; simp only [Result.andThen_ok]) | rw [if_pos (by omega)]); (try with_reducible rfl); done)); try simp only [Act.put, List.setIfInBounds_toArray, List.set_cons_zero, List.set_cons_succ])
    refine wpAnyH_done (by kernel_rfl) ?_ _
    go_wp2
    clear hwn hwl hadd t1 t2 t3 t4 t5 t6 t7
    go_loopw [4, 31] (fun d i wr => ∃ j : Nat, j ≤ cs.length ∧ d = .string (colsD num cs j) ∧ i = .int .i64 (j : Int) ∧ RPS w wr nm num (.slice ca cs.length cc) (.slice ka ks.length kc)) (fun _ i _ => cs.length - (intOf i).toNat)
    case atStart => exact ⟨0, by omega, by rw [HC0.out], rfl, HN5.out⟩
    case round =>
      obtain ⟨j, hj, rfl, rfl, hn⟩ := hrel
      have HNr : Hid (RPS w wr nm num (.slice ca cs.length cc) (.slice ka ks.length kc)) := hn
      clear hn HN5 HC0
      by_cases hjl : j < cs.length
      · have hji : (j : Int) < (cs.length : Int) := by omega
        obtain ⟨b, off, rfl, c0, c1, c2⟩ := (HSC.out.later (HNr.out.below.mono hB)).cell j hjl
        obtain ⟨z1, z2, z3⟩ := HCS.out j hjl
        have HNX : Hid (colsD num cs (j + 1) = colD (colsD num cs j) cs[j]) := colsD_next hjl
        have hsz := HCZ.out j hj
        have HBC : Hid (Below wr.heap.size wr (wr.alloc (.cells #[.string cs[j].1, .int .i64 cs[j].2.1, .bool cs[j].2.2] 61))) := boxC wr cs[j]
        have HNc : Hid (RPS w (wr.alloc (.cells #[.string cs[j].1, .int .i64 cs[j].2.1, .bool cs[j].2.2] 61)) nm num (.slice (some ⟨b, off, none⟩) cs.length cc) (.slice ka ks.length kc)) := HNr.out.later HBC.out HNr.out.size
        have HBL : Hid (∀ W, Calls Tryz.prog 62 #[.string cs[j].1] W fun e w' => e = .returned (.tuple #[.string (nmD cs[j]), .int .i64 0]) ∧ Below W.heap.size W w') := fun W => blobS cs[j].1 W z1
        have hnz := nmD_size z1
        have hbx : (wr.alloc (.cells #[.string cs[j].1, .int .i64 cs[j].2.1, .bool cs[j].2.2] 61)).heap[wr.heap.size]? = some (.cells #[.string cs[j].1, .int .i64 cs[j].2.1, .bool cs[j].2.2] 61) := heap_new _ _
        have HCD : Hid (colD (colsD num cs j) cs[j] = colsD num cs j ++ (nmD cs[j] ++ strOfNums [kdC cs[j]])) := rfl
        have HKD : Hid (kdC cs[j] = if cs[j].2.2 then cs[j].2.1 + 4 else cs[j].2.1) := rfl
        generalize colD (colsD num cs j) cs[j] = D2 at *
        generalize colsD num cs j = D1 at *
        generalize nmD cs[j] = N at *
        generalize kdC cs[j] = kd at *
        generalize cs[j] = c at *
        obtain ⟨cn, ct, nn⟩ := c
        dsimp only at *
        go_wp2_with fail
        refine (HBL.out _).mono ?_
        generalize wr.alloc (.cells #[.string cn, .int .i64 ct, .bool nn] 61) = W1 at *
        rintro e w6 ⟨rfl, hb6⟩
        have hb6' : Below W1.heap.size W1 w6 := hb6
        have hbx6 : w6.heap[wr.heap.size]? = some (.cells #[.string cn, .int .i64 ct, .bool nn] 61) := (hb6'.block _ (Array.getElem?_eq_some_iff.1 hbx).1).trans hbx
        have d1 : w6.cell? ⟨wr.heap.size, 1, none⟩ = some (.int .i64 ct) := by unfold World.cell?; rw [hbx6]; rfl
        have d2 : w6.cell? ⟨wr.heap.size, 2, none⟩ = some (.bool nn) := by unfold World.cell?; rw [hbx6]; rfl
        have HN6 : Hid (RPS w w6 nm num (.slice (some ⟨b, off, none⟩) cs.length cc) (.slice ka ks.length kc)) := HNc.out.later hb6' HNc.out.size
        have HB7 : Hid (Below w6.heap.size w6 (w6.alloc (.cells #[.int .u8 kd] 5))) := (Below.refl _ _).alloc (Nat.le_refl _) _
        have HN7 : Hid (RPS w (w6.alloc (.cells #[.int .u8 kd] 5)) nm num (.slice (some ⟨b, off, none⟩) cs.length cc) (.slice ka ks.length kc)) := HN6.out.later HB7.out HN6.out.size
        have hcv := (own_newB w6 w6.heap.size kd (Nat.le_refl _)).conv
        have ha1 : ∀ W : World, (Op.stringOp .add N (strOfNums [kd])).run Tryz.prog W = .ok (.string (N ++ strOfNums [kd])) W := fun W => addS _ _ (by rw [strOfNums_size]; simp; omega) W
        have ha2 : ∀ W : World, (Op.stringOp .add D1 (N ++ strOfNums [kd])).run Tryz.prog W = .ok (.string D2) W := fun W => by rw [HCD.out]; exact addS _ _ (by rw [ByteArray.size_append, strOfNums_size]; simp; omega) W
        clear hb6 hb6' hbx hbx6 HBL c0 c1 c2 HNc HBC HCD
        have hw1 : IntKind.u8.wrap ct = ct := by rw [IntKind.wrap_u8]; omega
        have hw2 : IntKind.u8.wrap (ct + 4) = ct + 4 := by rw [IntKind.wrap_u8]; omega
        cases nn with
        | true =>
          have hk : ct + 4 = kd := HKD.out.symm
          clear HKD
          rw [hk] at hw2
          go_wp2
          go_roundw
          case rel => exact ⟨j + 1, by omega, by rw [HNX.out], by go_num, HN7.out⟩
          case measure => simp [intOf]; omega
        | false =>
          have hk : ct = kd := HKD.out.symm
          subst hk
          clear HKD
          go_wp2
          go_roundw
          case rel => exact ⟨j + 1, by omega, by rw [HNX.out], by go_num, HN7.out⟩
          case measure => simp [intOf]; omega
      · have hji : ¬ (j : Int) < (cs.length : Int) := by omega
        have hje : j = cs.length := by omega
        have HMD : Hid (colsD num cs j ++ strOfNums (uvB (ks.length : Int)) = keysD num cs ks 0) := by
          rw [hje]
          rfl
        have hcz := HCZ.out j hj
        have hadd : ∀ W : World, (Op.stringOp .add (colsD num cs j) (strOfNums (uvB (ks.length : Int)))).run Tryz.prog W = .ok (.string (keysD num cs ks 0)) W := fun W => by rw [← HMD.out]; exact addS _ _ (by rw [strOfNums_size]; have := uvB_len (ks.length : Int); omega) W
        have HU : Hid (∀ W, _) := fun W => uvarint (ks.length : Int) W (by omega) (by omega)
        have hwl : IntKind.u64.wrap (ks.length : Int) = (ks.length : Int) := by rw [IntKind.wrap_u64]; omega
        obtain ⟨t1, t2, t3, t4, t5, t6, t7⟩ := HNr.out.cells
        clear hje HMD
        generalize colsD num cs j = D1 at *
        go_wp2_with fail
        refine (HU.out _).mono ?_
        rintro e w6 ⟨rfl, hb6⟩
        have HN6 : Hid (RPS w w6 nm num (.slice ca cs.length cc) (.slice ka ks.length kc)) := HNr.out.later hb6 HNr.out.size
        clear hb6 t1 t2 t3 t4 t5 t6 t7 HNr HU
        obtain ⟨t1, t2, t3, t4, t5, t6, t7⟩ := HN6.out.cells
        go_wp2
        clear hadd hwl t1 t2 t3 t4 t5 t6 t7 hji hj hjl hcz
        go_loopw [4, 66] (fun d i wr => ∃ j : Nat, j ≤ ks.length ∧ d = .string (keysD num cs ks j) ∧ i = .int .i64 (j : Int) ∧ RPS w wr nm num (.slice ca cs.length cc) (.slice ka ks.length kc)) (fun _ i _ => ks.length - (intOf i).toNat)
        case atStart => exact ⟨0, by omega, rfl, rfl, HN6.out⟩
        case round =>
          obtain ⟨j, hj, rfl, rfl, hn⟩ := hrel
          have HNr : Hid (RPS w wr nm num (.slice ca cs.length cc) (.slice ka ks.length kc)) := hn
          clear hn HN6
          by_cases hjl : j < ks.length
          · have hji : (j : Int) < (ks.length : Int) := by omega
            obtain ⟨b, off, rfl, c0⟩ := (HSK.out.later (HNr.out.below.mono hB)).cell j hjl
            have hkk := HKS.out _ (List.getElem_mem hjl)
            have HNX : Hid (keysD num cs ks (j + 1) = keyD (keysD num cs ks j) ks[j]) := keysD_next hjl
            have hsz := HKZ.out j hj
            have HKD : Hid (keyD (keysD num cs ks j) ks[j] = keysD num cs ks j ++ strOfNums (uvB ks[j])) := rfl
            generalize keyD (keysD num cs ks j) ks[j] = D2 at *
            generalize keysD num cs ks j = D1 at *
            generalize ks[j] = k at *
            have HU : Hid (∀ W, _) := fun W => uvarint k W (by omega) (by omega)
            have hwk : IntKind.u64.wrap k = k := by rw [IntKind.wrap_u64]; omega
            have hadd : ∀ W : World, (Op.stringOp .add D1 (strOfNums (uvB k))).run Tryz.prog W = .ok (.string D2) W := fun W => by rw [HKD.out]; exact addS _ _ (by rw [strOfNums_size]; have := uvB_len k; omega) W
            clear HKD hkk
            go_wp2_with fail
            refine (HU.out _).mono ?_
            rintro e w7 ⟨rfl, hb7⟩
            have HN7 : Hid (RPS w w7 nm num (.slice ca cs.length cc) (.slice (some ⟨b, off, none⟩) ks.length kc)) := HNr.out.later hb7 HNr.out.size
            clear hb7 HU
            go_wp2
            go_roundw
            case rel => exact ⟨j + 1, by omega, by rw [HNX.out], by go_num, HN7.out⟩
            case measure => simp [intOf]; omega
          · have hji : ¬ (j : Int) < (ks.length : Int) := by omega
            have HTD : Hid (keysD num cs ks j = tabD num cs ks) := by
              rw [show j = ks.length by omega]
              rfl
            obtain ⟨t1, t2, t3, t4, t5, t6, t7⟩ := HNr.out.cells
            have t0 := HNr.out.cell0
            have HOK : Hid (enE nm num cs ks = 0 → Value.tuple #[pairV (enK nm num cs ks) (enD nm num cs ks), errO (enE nm num cs ks)] = .tuple #[.agg #[.string (catK nm), .string (tabD num cs ks)], .nilIface]) := fun h => en_ok h
            rw [HTD.out]
            have HNK : Hid (∀ W, _) := fun W => nameKeyT nm g1 W
            clear HTD
            generalize tabD num cs ks = D at *
            by_cases hbig : 512 < D.size
            · have HE : Hid (enE nm num cs ks = 4) := HE0.out.trans (if_pos hbig)
              have hb1 : (512 : Int) < (D.size : Int) := by omega
              obtain ⟨p1, p2⟩ := HNr.out.put ⟨#[]⟩ ⟨#[]⟩
              clear hbig
              go_wp2
              exact bodyPost_ret (res_row_tmp (p := 2) (ty := 28) (q := 3) rfl _ _ (w.heap.size + 1) 28 _ (0, 0) _ rfl p2 Tryz.underlying28 rfl (by kernel_rfl)) rfl ⟨ret_same (en_err HE.out (by decide)), p1⟩
            · have HE : Hid (enE nm num cs ks = 0) := HE0.out.trans (if_neg hbig)
              have hb1 : ¬ (512 : Int) < (D.size : Int) := by omega
              clear hbig
              generalize catK nm = K at *
              go_wp2_with fail
              refine (HNK.out _).mono ?_
              rintro e w7 ⟨rfl, hb7⟩
              have HN7 : Hid (RPS w w7 nm num (.slice ca cs.length cc) (.slice ka ks.length kc)) := HNr.out.later hb7 HNr.out.size
              clear hb7 HNK t0 t1 t2 t3 t4 t5 t6 t7 HNr
              obtain ⟨t1, t2, t3, t4, t5, t6, t7⟩ := HN7.out.cells
              obtain ⟨p1, p2⟩ := HN7.out.put K D
              go_wp2
              exact bodyPost_ret (res_row_tmp (p := 2) (ty := 28) (q := 3) rfl _ _ (w.heap.size + 1) 28 _ (0, 0) _ rfl p2 Tryz.underlying28 rfl (by kernel_rfl)) rfl ⟨ret_same (HOK.out HE.out), p1⟩
  · have HE : Hid (enE nm num cs ks = 169) := if_neg ht
    rw [show isTb nm num cs ks = false by simpa using ht] at HT
    clear ht hl hkl
    unfold tabV at HT
    go_enter Tryz.func29, Tryz.ntmps29
    go_wp2_with fail
    refine (HT.out ()).mono ?_
    rintro e w3 ⟨rfl, hb3⟩
    have HN3 : Hid (RPS w w3 nm num (.slice ca cs.length cc) (.slice ka ks.length kc)) := HN.out.later hb3 HN.out.size
    clear hb3 HT HN t0 t1 t2 t3 t4 t5 t6 t7
    obtain ⟨t1, t2, t3, t4, t5, t6, t7⟩ := HN3.out.cells
    obtain ⟨p1, p2⟩ := HN3.out.put ⟨#[]⟩ ⟨#[]⟩
    go_wp2
    exact bodyPost_ret (res_row_tmp (p := 2) (ty := 28) (q := 3) rfl _ _ (w.heap.size + 1) 28 _ (0, 0) _ rfl p2 Tryz.underlying28 rfl (by kernel_rfl)) rfl ⟨ret_same (en_err HE.out (by decide)), p1⟩
end Go.Proofs.YtjcffcpmegpjeaaGreatDoor

namespace Go.Proofs.YtjcffcpmegpjeaaGreatDoor
set_option linter.unusedSimpArgs false
open Go.ChangeShapes Go.WideShapes Go.ChangeAt Go.RowKit
set_option linter.unusedVariables false
set_option maxRecDepth 100000
set_option maxHeartbeats 4000000 in
theorem EncTabT (nm : ByteArray) (num : Int) (cv kv : Value) (cs : List CD) (ks : List Int) (B : Nat) (w : World) (hB : B ≤ w.heap.size) (hs : SeesC w B cv cs) (hu : SeesG (Value.int .i64) w B kv ks)
    (hl : cs.length ≤ 140737488355328) (hkl : ks.length ≤ 140737488355328) (hnum : -9223372036854775808 ≤ num ∧ num ≤ 9223372036854775807) (hg : ErrTy w) :
    Calls Tryz.prog 13 #[.agg #[.string nm, .int .i64 num, cv, kv]] w fun e w' => e = .returned (.tuple #[pairV (enK nm num cs ks) (enD nm num cs ks), .int .i64 (enE nm num cs ks)]) ∧ Below w.heap.size w w' := by
  obtain ⟨ca, cc, rfl⟩ := hs.form
  obtain ⟨ka, kc, rfl⟩ := hu.form
  have HN : Hid _ := RPS.new w nm num (.slice ca cs.length cc) (.slice ka ks.length kc)
  have HT : Hid (∀ _ : Unit, _) := fun _ => encTabT nm num (.slice ca cs.length cc) (.slice ka ks.length kc) cs ks B _ (by have := HN.out.size; omega) (hs.later (HN.out.below.mono hB)) (hu.later (HN.out.below.mono hB)) hl hkl hnum
  have HG : Hid (ErrTy w) := hg
  have HZ : Hid (enE nm num cs ks ≠ 0 → enK nm num cs ks = ⟨#[]⟩ ∧ enD nm num cs ks = ⟨#[]⟩) := fun h => ⟨if_neg h, if_neg h⟩
  clear hs hu hg hl hkl
  generalize enE nm num cs ks = E at *
  generalize enK nm num cs ks = K at *
  generalize enD nm num cs ks = D at *
  obtain ⟨t1, t2, t3, t4, t5, t6, t7⟩ := HN.out.cells
  have t0 := HN.out.cell0
  go_enter Tryz.func13, Tryz.ntmps13
  go_wp2_with fail
  refine (HT.out ()).mono ?_
  rintro e w4 ⟨rfl, hb4⟩
  have HN4 : Hid (RPS w w4 nm num (.slice ca cs.length cc) (.slice ka ks.length kc)) := HN.out.later hb4 HN.out.size
  have HG4 : Hid (ErrTy w4) := HG.out.later HN4.out.below HG.out.pos
  clear hb4 HT HN t0 t1 t2 t3 t4 t5 t6 t7
  by_cases hE : E = 0
  · subst hE
    rw [errO_nil]
    unfold pairV
    go_wp2_with fail
    refine (toldP_ok K D w4).mono ?_
    rintro e w5 ⟨rfl, hb5⟩
    have HN5 : Hid (RPS w w5 nm num (.slice ca cs.length cc) (.slice ka ks.length kc)) := HN4.out.later hb5 HN4.out.size
    clear hb5 HN4
    obtain ⟨t1, t2, t3, t4, t5, t6, t7⟩ := HN5.out.cells
    obtain ⟨p1, p2⟩ := HN5.out.put K D
    unfold pairV
    go_wp2
    exact bodyPost_ret (res_row_tmp (p := 2) (ty := 28) (q := 3) rfl _ _ (w.heap.size + 1) 28 _ (0, 0) _ rfl p2 Tryz.underlying28 rfl (by kernel_rfl)) rfl ⟨rfl, p1⟩
  · rw [errO_not hE]
    have HNE : Hid (E ≠ 0) := hE
    obtain ⟨z1, z2⟩ := HZ.out hE
    subst z1 z2
    clear hE HZ
    unfold pairV
    go_wp2_with fail
    refine (toldP_err ⟨#[]⟩ ⟨#[]⟩ E HNE.out w4 HG4.out).mono ?_
    rintro e w5 ⟨rfl, hb5⟩
    have HN5 : Hid (RPS w w5 nm num (.slice ca cs.length cc) (.slice ka ks.length kc)) := HN4.out.later hb5 HN4.out.size
    clear hb5 HN4
    obtain ⟨t1, t2, t3, t4, t5, t6, t7⟩ := HN5.out.cells
    obtain ⟨p1, p2⟩ := HN5.out.put ⟨#[]⟩ ⟨#[]⟩
    unfold pairV
    go_wp2
    exact bodyPost_ret (res_row_tmp (p := 2) (ty := 28) (q := 3) rfl _ _ (w.heap.size + 1) 28 _ (0, 0) _ rfl p2 Tryz.underlying28 rfl (by kernel_rfl)) rfl ⟨rfl, p1⟩
end Go.Proofs.YtjcffcpmegpjeaaGreatDoor
