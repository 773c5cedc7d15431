import Derived.Test.YtjcffcpmegpjeaaGreatDoorPnR8
namespace Go.Proofs.YtjcffcpmegpjeaaGreatDoor
open Go.ChangeShapes Go.WideShapes Go.ChangeAt Go.RowKit
set_option linter.unusedVariables false
set_option maxRecDepth 100000
theorem typedR (k : Int) (w : World) : Calls Tryz.prog 53 #[.int .i64 k] w fun e w' => e = .returned (.bool (okTy k)) ∧ w' = w := by
  unfold okTy
  by_cases h1 : k = 1
  · subst h1
    go_enter Tryz.func53, Tryz.ntmps53
    go_wp2
    go_ret
    simp
  · by_cases h2 : k = 2
    · subst h2
      go_enter Tryz.func53, Tryz.ntmps53
      go_wp2
      go_ret
      simp
    · by_cases h3 : k = 3
      · subst h3
        go_enter Tryz.func53, Tryz.ntmps53
        go_wp2
        go_ret
        simp
      · have e1 : (k == 1) = false := by simp [h1]
        have e2 : (k == 2) = false := by simp [h2]
        have e3 : (k == 3) = false := by simp [h3]
        go_enter Tryz.func53, Tryz.ntmps53
        go_wp2
        go_ret
        simp [h1, h2, h3]
theorem ret_int {x y : Int} (h : x = y) : Ending.returned (.int .i64 y) = .returned (.int .i64 x) := by rw [h]
/-- The first place of a name, or -1. -/
def fdC : List ByteArray → ByteArray → Nat → Int
  | [], _, _ => -1
  | m :: l, n, i => if m = n then (i : Int) else fdC l n (i + 1)
theorem fdC_here {ns : List ByteArray} {n : ByteArray} {i : Nat} (h : i < ns.length) (he : ns[i] = n) : fdC (ns.drop i) n i = (i : Int) := by
  rw [List.drop_eq_getElem_cons h]
  unfold fdC
  rw [if_pos he]
theorem fdC_next {ns : List ByteArray} {n : ByteArray} {i : Nat} (h : i < ns.length) (he : ¬ ns[i] = n) : fdC (ns.drop i) n i = fdC (ns.drop (i + 1)) n (i + 1) := by
  rw [List.drop_eq_getElem_cons h]
  conv => lhs; unfold fdC
  rw [if_neg he]
/-- A name's first place is the one it was taken from, just when it does not stand before. -/
theorem fdC_iff {ns : List ByteArray} {i : Nat} (h : i < ns.length) : fdC ns ns[i] 0 = (i : Int) ↔ ns[i] ∉ ns.take i := by
  have key : ∀ d j, j + d = i → (ns[i] ∉ (ns.take i).drop j ↔ fdC (ns.drop j) ns[i] j = (i : Int)) := by
    intro d
    induction d with
    | zero =>
      intro j hj
      have : j = i := by omega
      subst this
      rw [fdC_here h rfl]
      simp
    | succ d ih =>
      intro j hj
      have hjl : j < ns.length := by omega
      have hjt : j < (ns.take i).length := by rw [List.length_take]; omega
      rw [List.drop_eq_getElem_cons hjt, List.getElem_take]
      by_cases he : ns[j] = ns[i]
      · rw [fdC_here hjl he, he]
        constructor
        · intro hh; exact absurd (List.mem_cons_self) hh
        · intro hh; omega
      · rw [fdC_next hjl he, ← ih (j + 1) (by omega)]
        constructor
        · intro hh hm; exact hh (List.mem_cons_of_mem _ hm)
        · intro hh hm
          rcases List.mem_cons.1 hm with h1 | h1
          · exact he h1.symm
          · exact hh h1
  have := key i 0 (by omega)
  simp only [List.drop_zero] at this
  exact this.symm
set_option maxHeartbeats 4000000 in
theorem findR (v : Value) (cs : List CD) (n : ByteArray) (B : Nat) (w : World) (hv : SeesC w B v cs) (hl : cs.length ≤ 140737488355328) :
    Calls Tryz.prog 54 #[v, .string n] w fun e w' => e = .returned (.int .i64 (fdC (nmsC cs) n 0)) ∧ w' = w := by
  obtain ⟨a, cap, rfl⟩ := hv.form
  have HV : Hid (SeesC w B (.slice a cs.length cap) cs) := hv
  have HL : Hid ((nmsC cs).length = cs.length) := by show (nmsC cs).length = cs.length; unfold nmsC; rw [List.length_map]
  have HNG : Hid (∀ i (h : i < cs.length) (h2 : i < (nmsC cs).length), (nmsC cs)[i] = cs[i].1) := fun i h h2 => by simp [nmsC]
  clear hv
  generalize nmsC cs = ns at *
  go_enter Tryz.func54, Tryz.ntmps54
  go_wp2
  go_loopw [5] (fun x wr => ∃ k : Nat, k ≤ cs.length ∧ x = .int .i64 (k : Int) ∧ fdC ns n 0 = fdC (ns.drop k) n k ∧ wr = w) (fun x _ => cs.length - (intOf x).toNat)
  case atStart => exact ⟨0, by omega, rfl, by simp, rfl⟩
  case round =>
    obtain ⟨k, hk, rfl, hf, rfl⟩ := hrel
    have HF : Hid (fdC ns n 0 = fdC (ns.drop k) n k) := hf
    clear hf
    by_cases hkl : k < cs.length
    · have hki : (k : Int) < (cs.length : Int) := by omega
      obtain ⟨b, off, rfl, c0, c1, c2⟩ := HV.out.cell k hkl
      have hkn : k < ns.length := by have := HL.out; omega
      have HE : Hid (ns[k] = cs[k].1) := HNG.out k hkl hkn
      generalize cs[k] = c at *
      obtain ⟨nm, kd, nn⟩ := c
      dsimp only at *
      by_cases he : nm.toList = n.toList
      · have HR : Hid (fdC ns n 0 = (k : Int)) := HF.out.trans (fdC_here hkn (HE.out.trans (ba_inj he)))
        have heb : (nm.toList == n.toList) = true := by simp [he]
        clear HE hkn HL
        go_wp2
        go_ret
        exact ⟨ret_int HR.out, rfl⟩
      · have HR : Hid (fdC ns n 0 = fdC (ns.drop (k + 1)) n (k + 1)) := HF.out.trans (fdC_next hkn (fun h => he (by rw [← h, HE.out])))
        have heb : (nm.toList == n.toList) = false := by simp [he]
        clear HE hkn HL
        go_wp2
        go_roundw
        case rel => exact ⟨k + 1, by omega, by go_num, HR.out, trivial⟩
        case measure => simp [intOf]; omega
    · have hki : ¬ (k : Int) < (cs.length : Int) := by omega
      have HR : Hid (fdC ns n 0 = -1) := by
        have := HF.out
        rw [List.drop_eq_nil_of_le (by have := HL.out; omega)] at this
        exact this
      clear HL
      go_wp2
      go_ret
      exact ⟨ret_int HR.out, rfl⟩
theorem wrongR (v : VL) (c : CD) (w : World) (hv : VOK v) : Calls Tryz.prog 22 #[.agg #[.int .i64 v.1, .int .i64 v.2.1, .string v.2.2], .agg #[.string c.1, .int .i64 c.2.1, .bool c.2.2], .bool false] w fun e w' => e = .returned (.int .i64 (colE v c)) ∧ Below w.heap.size w w' := by
  have HFA : Hid (∀ W, _) := fun W => ref_fault v W hv.1
  have HE : Hid (colE v c = if faultV v ≠ 0 then faultV v else if v.1 = 0 then (if c.2.2 = true then 166 else 0) else if v.1 = c.2.1 then 0 else 163) := rfl
  clear hv
  generalize colE v c = E at *
  generalize faultV v = F at *
  obtain ⟨kd, i, t⟩ := v
  obtain ⟨nm, ty, nn⟩ := c
  dsimp only at *
  have HB : Hid (Below w.heap.size w ((w.alloc (.cells #[.int .i64 kd, .int .i64 i, .string t] 59)).alloc (.cells #[.string nm, .int .i64 ty, .bool nn] 61))) := ((Below.refl _ _).alloc (Nat.le_refl _) _).alloc (by rw [szAl]; omega) _
  have hz : ((w.alloc (.cells #[.int .i64 kd, .int .i64 i, .string t] 59)).alloc (.cells #[.string nm, .int .i64 ty, .bool nn] 61)).heap.size = w.heap.size + 2 := by rw [szAl, szAl]
  have c0 : ((w.alloc (.cells #[.int .i64 kd, .int .i64 i, .string t] 59)).alloc (.cells #[.string nm, .int .i64 ty, .bool nn] 61)).cell? ⟨w.heap.size, 0, none⟩ = some (.int .i64 kd) := by simp
  have c1 : ((w.alloc (.cells #[.int .i64 kd, .int .i64 i, .string t] 59)).alloc (.cells #[.string nm, .int .i64 ty, .bool nn] 61)).cell? ⟨w.heap.size + 1, 1, none⟩ = some (.int .i64 ty) := by simp
  have c2 : ((w.alloc (.cells #[.int .i64 kd, .int .i64 i, .string t] 59)).alloc (.cells #[.string nm, .int .i64 ty, .bool nn] 61)).cell? ⟨w.heap.size + 1, 2, none⟩ = some (.bool nn) := by simp
  go_enter Tryz.func22, Tryz.ntmps22
  go_wp2_with fail
  refine (HFA.out _).mono ?_
  generalize (w.alloc (.cells #[.int .i64 kd, .int .i64 i, .string t] 59)).alloc (.cells #[.string nm, .int .i64 ty, .bool nn] 61) = W at *
  rintro e w3 ⟨rfl, hb3⟩
  have d0 : w3.cell? ⟨w.heap.size, 0, none⟩ = some (.int .i64 kd) := by rw [hb3.cell (p := ⟨w.heap.size, 0, none⟩) (by simp only; omega)]; exact c0
  have d1 : w3.cell? ⟨w.heap.size + 1, 1, none⟩ = some (.int .i64 ty) := by rw [hb3.cell (p := ⟨w.heap.size + 1, 1, none⟩) (by simp only; omega)]; exact c1
  have d2 : w3.cell? ⟨w.heap.size + 1, 2, none⟩ = some (.bool nn) := by rw [hb3.cell (p := ⟨w.heap.size + 1, 2, none⟩) (by simp only; omega)]; exact c2
  have HB3 : Hid (Below w.heap.size w w3) := HB.out.trans (hb3.mono (by omega))
  clear c0 c1 c2 hb3 HFA hz HB
  by_cases hF : F = 0
  · subst hF
    have HE1 : Hid (E = if kd = 0 then (if nn = true then 166 else 0) else if kd = ty then 0 else 163) := HE.out.trans (if_neg (by simp))
    clear HE
    by_cases hk : kd = 0
    · have HE2 : Hid (E = if nn = true then 166 else 0) := HE1.out.trans (if_pos hk)
      subst hk
      clear HE1
      cases nn with
      | true =>
        have HE3 : Hid (E = 166) := HE2.out
        go_wp2
        go_ret
        exact ⟨ret_int HE3.out, HB3.out⟩
      | false =>
        have HE3 : Hid (E = 0) := HE2.out
        go_wp2
        go_ret
        exact ⟨ret_int HE3.out, HB3.out⟩
    · have HE2 : Hid (E = if kd = ty then 0 else 163) := HE1.out.trans (if_neg hk)
      have hkb : (kd == 0) = false := by simp [hk]
      clear HE1
      by_cases ht : kd = ty
      · have HE3 : Hid (E = 0) := HE2.out.trans (if_pos ht)
        subst ht
        clear HE2
        go_wp2
        go_ret
        exact ⟨ret_int HE3.out, HB3.out⟩
      · have HE3 : Hid (E = 163) := HE2.out.trans (if_neg ht)
        have htb : (kd != ty) = true := by simp [ht]
        clear HE2
        go_wp2
        go_ret
        exact ⟨ret_int HE3.out, HB3.out⟩
  · have HE3 : Hid (E = F) := HE.out.trans (if_pos hF)
    have hfb : (F != 0) = true := by simp [hF]
    clear HE
    go_wp2
    go_ret
    exact ⟨ret_int HE3.out, HB3.out⟩
end Go.Proofs.YtjcffcpmegpjeaaGreatDoor

namespace Go.Proofs.YtjcffcpmegpjeaaGreatDoor
open Go.ChangeShapes Go.WideShapes Go.ChangeAt Go.RowKit
set_option linter.unusedVariables false
set_option maxRecDepth 100000
theorem all_ix {α : Type} (l : List α) (p : α → Bool) : l.all p = true ↔ ∀ j (h : j < l.length), p l[j] = true := by
  rw [List.all_eq_true]
  constructor
  · intro h j hj; exact h _ (List.getElem_mem hj)
  · intro h x hx
    obtain ⟨j, hj, rfl⟩ := List.mem_iff_getElem.1 hx
    exact h j hj
theorem nms_ix (cs : List CD) : (nmsC cs).Nodup ↔ ∀ j (h : j < cs.length), fdC (nmsC cs) cs[j].1 0 = (j : Int) := by
  rw [nodup_iff]
  have hl : (nmsC cs).length = cs.length := by unfold nmsC; rw [List.length_map]
  have hg : ∀ j (h : j < cs.length) (h2 : j < (nmsC cs).length), (nmsC cs)[j] = cs[j].1 := fun j h h2 => by simp [nmsC]
  constructor
  · intro h j hj
    have h2 : j < (nmsC cs).length := by omega
    have := (fdC_iff h2).2 (h j h2)
    rw [hg j hj h2] at this
    exact this
  · intro h j h2
    have hj : j < cs.length := by omega
    refine (fdC_iff h2).1 ?_
    rw [hg j hj h2]
    exact h j hj
theorem isTb_iff (nm : ByteArray) (num : Int) (cs : List CD) (ks : List Int) : isTb nm num cs ks = true ↔ (1 ≤ nm.size ∧ nm.size ≤ 32) ∧ 1 ≤ num ∧ (1 ≤ cs.length ∧ cs.length ≤ 16) ∧ (1 ≤ ks.length ∧ ks.length ≤ 8) ∧ (∀ j (h : j < cs.length), okCo cs[j] = true ∧ fdC (nmsC cs) cs[j].1 0 = (j : Int)) ∧ (∀ j (h : j < ks.length), okPl cs ks[j] = true ∧ ks[j] ∉ ks.take j) := by
  unfold isTb okCs okKs okNm
  simp only [Bool.and_eq_true, decide_eq_true_eq]
  rw [all_ix, all_ix, nms_ix, nodup_iff]
  constructor
  · rintro ⟨⟨⟨a1, a2⟩, ⟨a3, a4⟩, a5⟩, ⟨⟨⟨a6, a7⟩, a8⟩, a9⟩, a10⟩
    exact ⟨a1, a2, ⟨a3, a4⟩, ⟨a6, a7⟩, fun j h => ⟨a5 j h, a9 j h⟩, fun j h => ⟨a8 j h, a10 j h⟩⟩
  · rintro ⟨a1, a2, ⟨a3, a4⟩, ⟨a6, a7⟩, a5, a8⟩
    exact ⟨⟨⟨a1, a2⟩, ⟨a3, a4⟩, fun j h => (a5 j h).1⟩, ⟨⟨⟨a6, a7⟩, fun j h => (a8 j h).1⟩, fun j h => (a5 j h).2⟩, fun j h => (a8 j h).2⟩
/-- What is kept of a table that was handed over. -/
structure TBS (w W : World) (nm : ByteArray) (num : Int) (cv kv : Value) : Prop where
  below : Below w.heap.size w W
  tab : W.heap[w.heap.size]? = some (.cells #[.string nm, .int .i64 num, cv, kv] 25)
  size : w.heap.size + 1 ≤ W.heap.size
theorem TBS.later {w W W' : World} {nm : ByteArray} {num : Int} {cv kv : Value} {B : Nat} (h : TBS w W nm num cv kv) (hb : Below B W W') (hB : w.heap.size + 1 ≤ B) : TBS w W' nm num cv kv :=
  ⟨h.below.trans (hb.mono (by omega)), (hb.block _ (by omega)).trans h.tab, by have := hb.size; have := h.size; omega⟩
theorem TBS.cells {w W : World} {nm : ByteArray} {num : Int} {cv kv : Value} (h : TBS w W nm num cv kv) : W.cell? ⟨w.heap.size, 0, none⟩ = some (.string nm) ∧ W.cell? ⟨w.heap.size, 1, none⟩ = some (.int .i64 num) ∧ W.cell? ⟨w.heap.size, 2, none⟩ = some cv ∧ W.cell? ⟨w.heap.size, 3, none⟩ = some kv := by
  have h1 := h.tab
  unfold World.cell?
  rw [h1]
  exact ⟨rfl, rfl, rfl, rfl⟩
theorem TBS.new (w : World) (nm : ByteArray) (num : Int) (cv kv : Value) : TBS w (w.alloc (.cells #[.string nm, .int .i64 num, cv, kv] 25)) nm num cv kv :=
  ⟨(Below.refl _ _).alloc (Nat.le_refl _) _, heap_new _ _, by rw [szAl]; omega⟩
theorem ret_bool {x y : Bool} (h : x = y) : Ending.returned (.bool y) = .returned (.bool x) := by rw [h]
theorem isTb_no {nm : ByteArray} {num : Int} {cs : List CD} {ks : List Int} (h : ¬ ((1 ≤ nm.size ∧ nm.size ≤ 32) ∧ 1 ≤ num ∧ (1 ≤ cs.length ∧ cs.length ≤ 16) ∧ (1 ≤ ks.length ∧ ks.length ≤ 8) ∧ (∀ j (h : j < cs.length), okCo cs[j] = true ∧ fdC (nmsC cs) cs[j].1 0 = (j : Int)) ∧ (∀ j (h : j < ks.length), okPl cs ks[j] = true ∧ ks[j] ∉ ks.take j))) : isTb nm num cs ks = false := by
  rw [← isTb_iff] at h
  simpa using h
set_option maxHeartbeats 8000000 in
theorem isTableR (nm : ByteArray) (num : Int) (cv kv : Value) (cs : List CD) (ks : List Int) (B : Nat) (w : World) (hB : B ≤ w.heap.size) (hv : SeesC w B cv cs) (hu : SeesG (Value.int .i64) w B kv ks) (hl : cs.length ≤ 140737488355328) (hkl : ks.length ≤ 140737488355328) :
    Calls Tryz.prog 21 #[.agg #[.string nm, .int .i64 num, cv, kv]] w fun e w' => e = .returned (.bool (isTb nm num cs ks)) ∧ Below w.heap.size w w' := by
  obtain ⟨ca, cc, rfl⟩ := hv.form
  obtain ⟨ka, kc, rfl⟩ := hu.form
  have HN : Hid _ := TBS.new w nm num (.slice ca cs.length cc) (.slice ka ks.length kc)
  have HV : Hid (SeesC w B (.slice ca cs.length cc) cs) := hv
  have HU : Hid (SeesG (Value.int .i64) w B (.slice ka ks.length kc) ks) := hu
  have HL : Hid (cs.length ≤ 140737488355328) := hl
  clear hv hu
  obtain ⟨t0, t1, t2, t3⟩ := HN.out.cells
  by_cases h1 : 1 ≤ nm.size
  · by_cases h2 : nm.size ≤ 32
    · by_cases h3 : 1 ≤ num
      · by_cases h4 : 1 ≤ cs.length
        · by_cases h5 : cs.length ≤ 16
          · by_cases h6 : 1 ≤ ks.length
            · by_cases h7 : ks.length ≤ 8
              · have i1 : ¬ (nm.size : Int) < 1 := by omega
                have i2 : ¬ (32 : Int) < (nm.size : Int) := by omega
                have i3 : ¬ num < 1 := by omega
                have i4 : ¬ (cs.length : Int) < 1 := by omega
                have i5 : ¬ (16 : Int) < (cs.length : Int) := by omega
                have i6 : ¬ (ks.length : Int) < 1 := by omega
                have i7 : ¬ (8 : Int) < (ks.length : Int) := by omega
                have HI : Hid (isTb nm num cs ks = true ↔ (∀ j (h : j < cs.length), okCo cs[j] = true ∧ fdC (nmsC cs) cs[j].1 0 = (j : Int)) ∧ (∀ j (h : j < ks.length), okPl cs ks[j] = true ∧ ks[j] ∉ ks.take j)) := by
                  show _ ↔ _
                  rw [isTb_iff]
                  exact ⟨fun h => h.2.2.2.2, fun h => ⟨⟨h1, h2⟩, h3, ⟨h4, h5⟩, ⟨h6, h7⟩, h⟩⟩
                clear h1 h2 h3 h4 h6
                go_enter Tryz.func21, Tryz.ntmps21
                go_wp2
                clear i1 i2 i3 i4 i5 i6 i7 t0 t1 t2 t3
                generalize w.alloc (.cells #[.string nm, .int .i64 num, .slice ca cs.length cc, .slice ka ks.length kc] 25) = W0 at *
                go_loopw [3] (fun x wr => ∃ k : Nat, k ≤ cs.length ∧ x = .int .i64 (k : Int) ∧ TBS w wr nm num (.slice ca cs.length cc) (.slice ka ks.length kc) ∧ (∀ j (h : j < cs.length), j < k → okCo cs[j] = true ∧ fdC (nmsC cs) cs[j].1 0 = (j : Int))) (fun x _ => cs.length - (intOf x).toNat)
                case atStart => exact ⟨0, by omega, rfl, HN.out, fun j h h0 => absurd h0 (by omega)⟩
                case round =>
                  obtain ⟨k, hk, rfl, hn, hp⟩ := hrel
                  have HNr : Hid (TBS w wr nm num (.slice ca cs.length cc) (.slice ka ks.length kc)) := hn
                  have HP : Hid (∀ j (h : j < cs.length), j < k → okCo cs[j] = true ∧ fdC (nmsC cs) cs[j].1 0 = (j : Int)) := hp
                  clear hn hp HN
                  by_cases hkk : k < cs.length
                  · have hki : (k : Int) < (cs.length : Int) := by omega
                    obtain ⟨b, off, rfl, c0, c1, c2⟩ := (HV.out.later (HNr.out.below.mono hB)).cell k hkk
                    have HBc : Hid (Below wr.heap.size wr (wr.alloc (.cells #[.string cs[k].1, .int .i64 cs[k].2.1, .bool cs[k].2.2] 61))) := boxC wr cs[k]
                    have HNc : Hid (TBS w (wr.alloc (.cells #[.string cs[k].1, .int .i64 cs[k].2.1, .bool cs[k].2.2] 61)) nm num (.slice (some ⟨b, off, none⟩) cs.length cc) (.slice ka ks.length kc)) := HNr.out.later HBc.out HNr.out.size
                    have HFD : Hid (∀ _ : Unit, _) := fun _ => findR (.slice (some ⟨b, off, none⟩) cs.length cc) cs cs[k].1 B (wr.alloc (.cells #[.string cs[k].1, .int .i64 cs[k].2.1, .bool cs[k].2.2] 61)) (HV.out.later (HNc.out.below.mono hB)) HL.out
                    have HOK : Hid (okCo cs[k] = (okNm cs[k].1 && okTy cs[k].2.1)) := rfl
                    obtain ⟨t0, t1, t2, t3⟩ := HNr.out.cells
                    obtain ⟨s0, s1, s2, s3⟩ := HNc.out.cells
                    have HST : Hid (okCo cs[k] = true → fdC (nmsC cs) cs[k].1 0 = (k : Int) → ∀ j (h : j < cs.length), j < k + 1 → okCo cs[j] = true ∧ fdC (nmsC cs) cs[j].1 0 = (j : Int)) := by
                      intro x1 x2 j h hj
                      by_cases e : j = k
                      · subst e; exact ⟨x1, x2⟩
                      · exact HP.out j h (by omega)
                    have HNO : Hid (okCo cs[k] = false ∨ fdC (nmsC cs) cs[k].1 0 ≠ (k : Int) → isTb nm num cs ks = false) := by
                      intro h
                      rw [Bool.eq_false_iff]
                      intro ht
                      obtain ⟨y1, y2⟩ := (HI.out.1 ht).1 k hkk
                      rcases h with h | h
                      · rw [y1] at h; exact absurd h (by decide)
                      · exact h y2
                    clear HP HI
                    generalize okCo cs[k] = oc at *
                    generalize fdC (nmsC cs) cs[k].1 0 = fd at *
                    generalize cs[k] = c at *
                    obtain ⟨cn, ct, nn⟩ := c
                    dsimp only at *
                    by_cases g1 : 1 ≤ cn.size
                    · by_cases g2 : cn.size ≤ 32
                      · have j1 : ¬ (cn.size : Int) < 1 := by omega
                        have j2 : ¬ (32 : Int) < (cn.size : Int) := by omega
                        have HOC : Hid (oc = okTy ct) := by
                          show oc = okTy ct
                          rw [HOK.out]
                          unfold okNm
                          simp [g1, g2]
                        clear g1 g2 HOK
                        go_wp2_with fail
                        refine (typedR ct _).mono ?_
                        rintro e w3 ⟨rfl, rfl⟩
                        generalize okTy ct = ty at *
                        cases ty with
                        | false =>
                          have HF : Hid (isTb nm num cs ks = false) := HNO.out (Or.inl HOC.out)
                          go_wp2
                          go_ret
                          exact ⟨ret_bool HF.out, HNc.out.below⟩
                        | true =>
                          go_wp2_with fail
                          refine (HFD.out ()).mono ?_
                          rintro e w4 ⟨rfl, rfl⟩
                          by_cases hfd : fd = (k : Int)
                          · have HSS : Hid _ := HST.out HOC.out hfd
                            have hfb : (fd != (k : Int)) = false := by simp [hfd]
                            clear HST HNO
                            go_wp2
                            go_roundw
                            case rel => exact ⟨k + 1, by omega, by go_num, HNc.out, HSS.out⟩
                            case measure => simp [intOf]; omega
                          · have HF : Hid (isTb nm num cs ks = false) := HNO.out (Or.inr hfd)
                            have hfb : (fd != (k : Int)) = true := by simp [hfd]
                            clear hfd
                            go_wp2
                            go_ret
                            exact ⟨ret_bool HF.out, HNc.out.below⟩
                      · have j1 : ¬ (cn.size : Int) < 1 := by omega
                        have j2 : (32 : Int) < (cn.size : Int) := by omega
                        have HF : Hid (isTb nm num cs ks = false) := HNO.out (Or.inl (by rw [HOK.out]; unfold okNm; simp [g1, g2]))
                        clear g1 g2 HOK
                        go_wp2
                        go_ret
                        exact ⟨ret_bool HF.out, HNc.out.below⟩
                    · have j1 : (cn.size : Int) < 1 := by omega
                      have HF : Hid (isTb nm num cs ks = false) := HNO.out (Or.inl (by rw [HOK.out]; unfold okNm; simp [g1]))
                      clear g1 HOK
                      go_wp2
                      go_ret
                      exact ⟨ret_bool HF.out, HNc.out.below⟩
                  · have hki : ¬ (k : Int) < (cs.length : Int) := by omega
                    obtain ⟨t0, t1, t2, t3⟩ := HNr.out.cells
                    have HI2 : Hid (isTb nm num cs ks = true ↔ (∀ j (h : j < ks.length), okPl cs ks[j] = true ∧ ks[j] ∉ ks.take j)) := ⟨fun h => (HI.out.1 h).2, fun h => HI.out.2 ⟨fun j h => HP.out j h (by omega), h⟩⟩
                    clear HP HI
                    go_wp2
                    clear t0 t1 t2 t3
                    generalize wr = w2 at *
                    clear hkk hki hk
                    go_loopw [5] (fun x wr => ∃ m : Nat, m ≤ ks.length ∧ x = .int .i64 (m : Int) ∧ wr = w2 ∧ (∀ j (h : j < ks.length), j < m → okPl cs ks[j] = true ∧ ks[j] ∉ ks.take j)) (fun x _ => ks.length - (intOf x).toNat)
                    case atStart => exact ⟨0, by omega, rfl, rfl, fun j h h0 => absurd h0 (by omega)⟩
                    case round =>
                      obtain ⟨m, hm, rfl, hw, hp⟩ := hrel
                      have hw2 := hw.symm
                      subst hw2
                      clear hw
                      have HP : Hid (∀ j (h : j < ks.length), j < m → okPl cs ks[j] = true ∧ ks[j] ∉ ks.take j) := hp
                      clear hp
                      obtain ⟨t0, t1, t2, t3⟩ := HNr.out.cells
                      by_cases hmk : m < ks.length
                      · have hmi : (m : Int) < (ks.length : Int) := by omega
                        obtain ⟨kb, ko, rfl, hck⟩ := (HU.out.later (HNr.out.below.mono hB)).cell m hmk
                        have HST : Hid (okPl cs ks[m] = true → ks[m] ∉ ks.take m → ∀ j (h : j < ks.length), j < m + 1 → okPl cs ks[j] = true ∧ ks[j] ∉ ks.take j) := by
                          intro x1 x2 j h hj
                          by_cases e : j = m
                          · subst e; exact ⟨x1, x2⟩
                          · exact HP.out j h (by omega)
                        have HNO : Hid (okPl cs ks[m] = false ∨ ks[m] ∈ ks.take m → isTb nm num cs ks = false) := by
                          intro h
                          rw [Bool.eq_false_iff]
                          intro ht
                          obtain ⟨y1, y2⟩ := HI2.out.1 ht m hmk
                          rcases h with h | h
                          · rw [y1] at h; exact absurd h (by decide)
                          · exact y2 h
                        clear HP HI2
                        generalize ks[m] = kk at *
                        by_cases g1 : 0 ≤ kk
                        · by_cases g2 : kk < (cs.length : Int)
                          · obtain ⟨n, rfl⟩ : ∃ n : Nat, kk = (n : Int) := ⟨kk.toNat, by omega⟩
                            have hn : n < cs.length := by omega
                            obtain ⟨b, off, rfl, c0, c1, c2⟩ := (HV.out.later (HNr.out.below.mono hB)).cell n hn
                            have HOK : Hid (okPl cs (n : Int) = cs[n].2.2) := by
                              show okPl cs (n : Int) = cs[n].2.2
                              unfold okPl nnAt
                              simp [hn]
                            generalize okPl cs (n : Int) = ok at *
                            generalize cs[n] = c at *
                            obtain ⟨cn, ct, nn⟩ := c
                            dsimp only at *
                            have j1 : ¬ (n : Int) < 0 := by omega
                            have j2 : ¬ (cs.length : Int) ≤ (n : Int) := by omega
                            clear g1 g2
                            cases nn with
                            | false =>
                              have HF : Hid (isTb nm num cs ks = false) := HNO.out (Or.inl HOK.out)
                              go_wp2
                              go_ret
                              exact ⟨ret_bool HF.out, HNr.out.below⟩
                            | true =>
                              go_wp2
                              clear j1 j2
                              go_loopw [7] (fun x wr => ∃ l : Nat, l ≤ m ∧ x = .int .i64 (l : Int) ∧ wr = w2 ∧ (∀ j (h : j < ks.length), j < l → ks[j] ≠ (n : Int))) (fun x _ => m - (intOf x).toNat)
                              case atStart => exact ⟨0, by omega, rfl, rfl, fun j h h0 => absurd h0 (by omega)⟩
                              case round =>
                                obtain ⟨l, hlm, rfl, hw, hq⟩ := hrel
                                have hw2 := hw.symm
                                subst hw2
                                clear hw
                                have HQ : Hid (∀ j (h : j < ks.length), j < l → ks[j] ≠ (n : Int)) := hq
                                clear hq
                                by_cases hll : l < m
                                · have hli : (l : Int) < (m : Int) := by omega
                                  have hlk : l < ks.length := by omega
                                  obtain ⟨kb2, ko2, he2, hcl⟩ := (HU.out.later (HNr.out.below.mono hB)).cell l hlk
                                  injection he2 with he2
                                  injection he2 with e1 e2
                                  subst e1 e2
                                  have hlki : (l : Int) < (ks.length : Int) := by omega
                                  by_cases he : ks[l] = (n : Int)
                                  · have HF : Hid (isTb nm num cs ks = false) := HNO.out (Or.inr (by
                                      rw [← he]
                                      have h1 : l < (ks.take m).length := by rw [List.length_take]; omega
                                      have h2 : (ks.take m)[l] = ks[l] := List.getElem_take
                                      rw [← h2]
                                      exact List.getElem_mem h1))
                                    rw [he] at hcl
                                    clear he HQ HNO HST
                                    go_wp2
                                    go_ret
                                    exact ⟨ret_bool HF.out, HNr.out.below⟩
                                  · have HQ2 : Hid (∀ j (h : j < ks.length), j < l + 1 → ks[j] ≠ (n : Int)) := by
                                      intro j h hj
                                      by_cases e : j = l
                                      · subst e; exact he
                                      · exact HQ.out j h (by omega)
                                    have heb : (ks[l] == (n : Int)) = false := by simp [he]
                                    generalize ks[l] = kl at *
                                    clear he HQ HNO HST
                                    go_wp2
                                    go_roundw
                                    case rel => exact ⟨l + 1, by omega, by go_num, (by first | trivial | rfl), HQ2.out⟩
                                    case measure => simp [intOf]; omega
                                · have hli : ¬ (l : Int) < (m : Int) := by omega
                                  have HSS : Hid _ := HST.out HOK.out (by
                                    intro hmem
                                    obtain ⟨j, hj, hje⟩ := List.mem_iff_getElem.1 hmem
                                    rw [List.length_take] at hj
                                    rw [List.getElem_take] at hje
                                    exact HQ.out j (by omega) (by omega) hje)
                                  clear HQ HNO HST
                                  go_wp2
                                  go_roundw
                                  case rel => exact ⟨m + 1, by omega, by go_num, (by first | trivial | rfl), HSS.out⟩
                                  case measure => simp [intOf]; omega
                          · have j1 : ¬ kk < 0 := by omega
                            have j2 : (cs.length : Int) ≤ kk := by omega
                            have HF : Hid (isTb nm num cs ks = false) := HNO.out (Or.inl (by unfold okPl; simp [g2]))
                            clear g1 g2 HNO HST
                            go_wp2
                            go_ret
                            exact ⟨ret_bool HF.out, HNr.out.below⟩
                        · have j1 : kk < 0 := by omega
                          have HF : Hid (isTb nm num cs ks = false) := HNO.out (Or.inl (by unfold okPl; simp [g1]))
                          clear g1 HNO HST
                          go_wp2
                          go_ret
                          exact ⟨ret_bool HF.out, HNr.out.below⟩
                      · have hmi : ¬ (m : Int) < (ks.length : Int) := by omega
                        have HT : Hid (isTb nm num cs ks = true) := HI2.out.2 (fun j h => HP.out j h (by omega))
                        clear HP HI2
                        go_wp2
                        go_ret
                        exact ⟨ret_bool HT.out, HNr.out.below⟩
              · have i1 : ¬ (nm.size : Int) < 1 := by omega
                have i2 : ¬ (32 : Int) < (nm.size : Int) := by omega
                have i3 : ¬ num < 1 := by omega
                have i4 : ¬ (cs.length : Int) < 1 := by omega
                have i5 : ¬ (16 : Int) < (cs.length : Int) := by omega
                have i6 : ¬ (ks.length : Int) < 1 := by omega
                have i7 : (8 : Int) < (ks.length : Int) := by omega
                have HF : Hid (isTb nm num cs ks = false) := isTb_no (fun h => h7 h.2.2.2.1.2)
                clear h1 h2 h3 h4 h5 h6 h7
                go_enter Tryz.func21, Tryz.ntmps21
                go_wp2
                go_ret
                exact ⟨ret_bool HF.out, HN.out.below⟩
            · have i1 : ¬ (nm.size : Int) < 1 := by omega
              have i2 : ¬ (32 : Int) < (nm.size : Int) := by omega
              have i3 : ¬ num < 1 := by omega
              have i4 : ¬ (cs.length : Int) < 1 := by omega
              have i5 : ¬ (16 : Int) < (cs.length : Int) := by omega
              have i6 : (ks.length : Int) < 1 := by omega
              have HF : Hid (isTb nm num cs ks = false) := isTb_no (fun h => h6 h.2.2.2.1.1)
              clear h1 h2 h3 h4 h5 h6
              go_enter Tryz.func21, Tryz.ntmps21
              go_wp2
              go_ret
              exact ⟨ret_bool HF.out, HN.out.below⟩
          · have i1 : ¬ (nm.size : Int) < 1 := by omega
            have i2 : ¬ (32 : Int) < (nm.size : Int) := by omega
            have i3 : ¬ num < 1 := by omega
            have i4 : ¬ (cs.length : Int) < 1 := by omega
            have i5 : (16 : Int) < (cs.length : Int) := by omega
            have HF : Hid (isTb nm num cs ks = false) := isTb_no (fun h => h5 h.2.2.1.2)
            clear h1 h2 h3 h4 h5
            go_enter Tryz.func21, Tryz.ntmps21
            go_wp2
            go_ret
            exact ⟨ret_bool HF.out, HN.out.below⟩
        · have i1 : ¬ (nm.size : Int) < 1 := by omega
          have i2 : ¬ (32 : Int) < (nm.size : Int) := by omega
          have i3 : ¬ num < 1 := by omega
          have i4 : (cs.length : Int) < 1 := by omega
          have HF : Hid (isTb nm num cs ks = false) := isTb_no (fun h => h4 h.2.2.1.1)
          clear h1 h2 h3 h4
          go_enter Tryz.func21, Tryz.ntmps21
          go_wp2
          go_ret
          exact ⟨ret_bool HF.out, HN.out.below⟩
      · have i1 : ¬ (nm.size : Int) < 1 := by omega
        have i2 : ¬ (32 : Int) < (nm.size : Int) := by omega
        have i3 : num < 1 := by omega
        have HF : Hid (isTb nm num cs ks = false) := isTb_no (fun h => h3 h.2.1)
        clear h1 h2 h3
        go_enter Tryz.func21, Tryz.ntmps21
        go_wp2
        go_ret
        exact ⟨ret_bool HF.out, HN.out.below⟩
    · have i1 : ¬ (nm.size : Int) < 1 := by omega
      have i2 : (32 : Int) < (nm.size : Int) := by omega
      have HF : Hid (isTb nm num cs ks = false) := isTb_no (fun h => h2 h.1.2)
      clear h1 h2
      go_enter Tryz.func21, Tryz.ntmps21
      go_wp2
      go_ret
      exact ⟨ret_bool HF.out, HN.out.below⟩
  · have i1 : (nm.size : Int) < 1 := by omega
    have HF : Hid (isTb nm num cs ks = false) := isTb_no (fun h => h1 h.1.1)
    clear h1
    go_enter Tryz.func21, Tryz.ntmps21
    go_wp2
    go_ret
    exact ⟨ret_bool HF.out, HN.out.below⟩
end Go.Proofs.YtjcffcpmegpjeaaGreatDoor
