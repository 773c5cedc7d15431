import Derived.Test.YtlidkdnfibfnfaaGreatDoorLxS7
import Derived.Deep.MidRow
namespace Go.Proofs.YtlidkdnfibfnfaaGreatDoor
open Go.ChangeShapes Go.WideShapes Go.ChangeAt Go.RowKit
set_option linter.unusedVariables false
set_option maxRecDepth 100000
theorem u61 : Tryz.prog.underlying 74 = some (.array 61 9) := by kernel_rfl
theorem i61 : (Tryz.prog.info? 74).map (·.size) = some 61 := by kernel_rfl
theorem u18 : Tryz.prog.underlying 64 = some (.array 18 9) := by kernel_rfl
theorem i18 : (Tryz.prog.info? 64).map (·.size) = some 18 := by kernel_rfl
/-- A table of texts. -/
def tabS (ls : List (List UInt8)) : List Value := ls.map fun l => Value.string ⟨l.toArray⟩
theorem ix_tab (t : TypeId) (n : Nat) (h : Tryz.prog.underlying t = some (.array n 9)) (ls : List (List UInt8)) (hn : ls.length = n) (k : Nat) (hk : k < ls.length) (w : World) : (Instr.index t (.agg (tabS ls).toArray) (.int .i64 (k : Int))).run Tryz.prog w = .ok (.string ⟨ls[k].toArray⟩) w := by
  have h1 : (0 : Int) ≤ (k : Int) ∧ (k : Int) < (n : Int) := by omega
  simp [Instr.index, run_underlying h, asIntOf, h1, go_sem]
  have e : (tabS ls)[k]? = some (.string ⟨ls[k].toArray⟩) := by unfold tabS; rw [List.getElem?_map, List.getElem?_eq_getElem hk]; rfl
  rw [if_pos (by omega), e]
  rfl
theorem tab_at {w : World} {g : Nat} {ls : List (List UInt8)} (h : ∀ j (hj : j < ls.length), w.cell? ⟨g, j, none⟩ = some (.string ⟨ls[j].toArray⟩)) : w.rangeAt g 0 (tabS ls) := by
  intro j v hj
  unfold tabS at hj
  rw [List.getElem?_map] at hj
  rcases Nat.lt_or_ge j ls.length with hl | hl
  · rw [List.getElem?_eq_getElem hl] at hj
    simp only [Option.map_some, Option.some.injEq] at hj
    rw [← hj, Nat.zero_add]
    exact h j hl
  · rw [List.getElem?_eq_none hl] at hj
    simp at hj
theorem isKw_iff (v : ByteArray) : isKw v = true ↔ ∃ k, ∃ h : k < kws.length, kws[k] = v.data.toList := by
  unfold isKw
  rw [List.contains_iff_mem]
  constructor
  · intro h
    obtain ⟨k, hk, e⟩ := List.mem_iff_getElem.1 h
    exact ⟨k, hk, e⟩
  · rintro ⟨k, hk, e⟩
    rw [← e]
    exact List.getElem_mem hk
theorem kwT (v : ByteArray) (w : World) (hg : GX w) : Calls Tryz.prog 49 #[.string v] w fun e w' => e = .returned (.bool (isKw v)) ∧ w' = w := by
  have HR : Hid (w.rangeAt 1 0 (tabS kws)) := tab_at hg.kw
  have HI : Hid (∀ (k : Nat) (hk : k < kws.length) (w : World), _) := fun k hk w => ix_tab 74 61 u61 kws rfl k hk w
  have HL : Hid ((tabS kws).length = 61) := by show (tabS kws).length = 61; rfl
  clear hg
  go_enter Tryz.func49, Tryz.ntmps49
  go_wp2_with (refine wpList_load_mid (by rfl) 74 (.global 1) (by rfl) 1 0 (by rfl) (tabS kws) _ HR.out u61 rfl (by rw [HL.out]; exact i61) ?_)
  go_loopw [4, 6] (fun _ x wr => ∃ k : Nat, k ≤ 61 ∧ x = .int .i64 (k : Int) ∧ wr = w ∧ ∀ j (h : j < kws.length), j < k → kws[j] ≠ v.data.toList) (fun _ x _ => 61 - (intOf x).toNat)
  case atStart => exact ⟨0, by omega, rfl, rfl, fun j _ h => by omega⟩
  case round =>
    obtain ⟨k, hk, rfl, rfl, hno⟩ := hrel
    have HN : Hid (∀ j (h : j < kws.length), j < k → kws[j] ≠ v.data.toList) := hno
    clear hno
    by_cases hl : k < 61
    · have hli : (k : Int) < 61 := by omega
      have hkl : k < kws.length := hl
      have hix := HI.out k hkl
      by_cases he : kws[k] = v.data.toList
      · have HE : Hid (isKw v = true) := (isKw_iff v).2 ⟨k, hkl, he⟩
        have hv : (ByteArray.mk kws[k].toArray) = v := by rw [he]
        go_wp2
        go_ret
        exact ⟨by rw [HE.out]; rfl, rfl⟩
      · have HN2 : Hid (∀ j (h : j < kws.length), j < k + 1 → kws[j] ≠ v.data.toList) := fun j h hj => by
          rcases Nat.lt_or_ge j k with h1 | h1
          · exact HN.out j h h1
          · have e : j = k := by omega
            subst e
            exact he
        have hne : ¬ (ByteArray.mk kws[k].toArray) = v := fun e => he (by rw [← e])
        clear he HN HR HI HL
        generalize ByteArray.mk kws[k].toArray = X at *
        have h1 : (X.toList == v.toList) = false := by rw [str_beq]; exact decide_eq_false hne
        have h2 : ¬ X.toList = v.toList := fun e => by rw [e, beq_self_eq_true] at h1; cases h1
        go_wp2
        go_roundw
        case rel => exact ⟨k + 1, by omega, by go_num, trivial, HN2.out⟩
        case measure => simp [intOf]; omega
    · have hli : ¬ (k : Int) < 61 := by omega
      have HE : Hid (isKw v = false) := by
        show isKw v = false
        rw [Bool.eq_false_iff]
        intro h
        obtain ⟨j, hj, e⟩ := (isKw_iff v).1 h
        exact HN.out j hj (by have : kws.length = 61 := rfl; omega) e
      go_wp2
      go_ret
      exact ⟨by rw [HE.out]; rfl, rfl⟩
theorem ascii_word {s : ByteArray} {i j : Nat} (h : ∀ k, i ≤ k → k < j → isWd (bA s k)) (hj : j ≤ s.size) : ∀ (n : Nat) (b : UInt8), (s.extract i j).data.toList[n]? = some b → b.toNat < 128 := by
  intro n b hb
  rw [ByteArray.data_extract, Array.toList_extract, List.extract_eq_take_drop, List.getElem?_take] at hb
  split at hb
  · next hn =>
    rw [List.getElem?_drop] at hb
    obtain ⟨h1, h2⟩ := List.getElem?_eq_some_iff.1 hb
    have hl : i + n < s.size := by
      have : s.data.toList.length = s.size := Array.length_toList
      omega
    have hw := h (i + n) (by omega) (by omega)
    rw [bA_of hl] at hw
    have e : s[i + n] = b := by
      rw [← h2]
      rfl
    rw [e] at hw
    unfold isWd isLt isDg at hw
    omega
  · cases hb
theorem upper_of (v : ByteArray) : (⟨(Lib.toUpperA v.data.toList).toArray⟩ : ByteArray) = upP v := by
  unfold upP Lib.toUpperA
  apply ByteArray.ext
  apply Array.ext'
  simp
theorem lower_of (v : ByteArray) : (⟨(Lib.toLowerA v.data.toList).toArray⟩ : ByteArray) = loP v := by
  unfold loP Lib.toLowerA
  apply ByteArray.ext
  apply Array.ext'
  simp
theorem loP_size (v : ByteArray) : (loP v).size = v.size := by unfold loP; show (Array.map _ _).size = _; rw [Array.size_map]; rfl
/-- How a token's reading ends. -/
def TokR (R : Nat) (s : ByteArray) (p : Nat) (r : Except Int (TK × Nat)) (e : Ending) (w' : World) : Prop := match r with
  | .error c => e = gaveUp c p
  | .ok (t, j) => e = .returned (.agg (tkC { t with at_ := 0 })) ∧ Sc w' R s j
/-- What stands while a token is read: its box is made, and empty. -/
structure TkS (R : Nat) (s : ByteArray) (w W : World) (p : Nat) : Prop where
  sc : Sc W R s p
  fr : Fr R w W
  bx : W.heap[w.heap.size]? = some (.cells tkZ 30)
  lt : R < w.heap.size
theorem TkS.new {R : Nat} {s : ByteArray} {w : World} {p : Nat} (h : Sc w R s p) : TkS R s w (w.alloc (.cells tkZ 30)) p :=
  ⟨h.later ((Below.refl _ _).alloc (Nat.le_refl _) _), (Fr.refl _ _).alloc (Nat.le_of_lt h.lt) _, heap_alloc_new w _, h.lt⟩
theorem TkS.box {R : Nat} {s : ByteArray} {w W : World} {p : Nat} (h : TkS R s w W p) : w.heap.size < W.heap.size := (Array.getElem?_eq_some_iff.1 h.bx).1
theorem TkS.next {R : Nat} {s : ByteArray} {w W W' : World} {p q : Nat} (h : TkS R s w W p) (hf : Fr R W W') (hs : Sc W' R s q) : TkS R s w W' q :=
  ⟨hs, h.fr.trans hf, (hf.rest _ h.box (by have := h.lt; omega)).trans h.bx, h.lt⟩
theorem TkS.below {R : Nat} {s : ByteArray} {w W W' : World} {p : Nat} (h : TkS R s w W p) (hb : Below W.heap.size W W') : TkS R s w W' p :=
  h.next (Fr.of (Nat.le_of_lt h.sc.lt) hb) (h.sc.later hb)
theorem TkS.gx {R : Nat} {s : ByteArray} {w W : World} {p : Nat} (h : TkS R s w W p) (hg : GX w) (hR : 11 ≤ R) : GX W := hg.later h.fr.toBelow hR
theorem TkS.done {R : Nat} {s : ByteArray} {w W : World} {p : Nat} (h : TkS R s w W p) (x y z u : Value) :
    Sc ((((W.setCell ⟨w.heap.size, 0, none⟩ x).setCell ⟨w.heap.size, 1, none⟩ y).setCell ⟨w.heap.size, 2, none⟩ z).setCell ⟨w.heap.size, 3, none⟩ u) R s p ∧ Fr R w ((((W.setCell ⟨w.heap.size, 0, none⟩ x).setCell ⟨w.heap.size, 1, none⟩ y).setCell ⟨w.heap.size, 2, none⟩ z).setCell ⟨w.heap.size, 3, none⟩ u) := by
  have hl := h.lt
  exact ⟨(((h.sc.other (p := ⟨w.heap.size, 0, none⟩) _ (by show R ≠ w.heap.size; omega)).other (p := ⟨w.heap.size, 1, none⟩) _ (by show R ≠ w.heap.size; omega)).other (p := ⟨w.heap.size, 2, none⟩) _ (by show R ≠ w.heap.size; omega)).other (p := ⟨w.heap.size, 3, none⟩) _ (by show R ≠ w.heap.size; omega),
    (((h.fr.setOwn (p := ⟨w.heap.size, 0, none⟩) (Nat.le_of_lt hl) (Nat.le_refl _) _).setOwn (p := ⟨w.heap.size, 1, none⟩) (Nat.le_of_lt hl) (Nat.le_refl _) _).setOwn (p := ⟨w.heap.size, 2, none⟩) (Nat.le_of_lt hl) (Nat.le_refl _) _).setOwn (p := ⟨w.heap.size, 3, none⟩) (Nat.le_of_lt hl) (Nat.le_refl _) _⟩
set_option maxHeartbeats 3200000 in
theorem wordT (R : Nat) (s : ByteArray) (p : Nat) (w : World) (h : Sc w R s p) (hs : s.size ≤ 65536) (hp : p < s.size) (hL : isLt (bA s p)) (hg : GX w) (hR : 11 ≤ R) :
    Calls Tryz.prog 29 #[.pointer (some ⟨R, 0, none⟩)] w fun e w' => TokR R s p (wordP s p) e w' ∧ Fr R w w' := by
  have HT : Hid (TkS R s w (w.alloc (.cells tkZ 30)) p) := TkS.new h
  have HG : Hid (GX w) := hg
  have hge : p < wordE s p := by
    rw [wordE_step hp (Or.inl hL)]
    have := wordE_ge s (p + 1); omega
  have hle := wordE_le s p (Nat.le_of_lt hp)
  have HA : Hid _ := ascii_word (s := s) (i := p) (j := wordE s p) (fun k h1 h2 => wordE_all s p k h1 h2) hle
  have HRW : Hid (∀ _ : Unit, _) := fun _ => runW R s p (w.alloc (.cells tkZ 30)) HT.out.sc hs (Nat.le_of_lt hp)
  have HW : Hid (wordP s p = if isKw (upP (s.extract p (wordE s p))) then .ok (⟨2, upP (s.extract p (wordE s p)), 0, p⟩, wordE s p) else if 32 < wordE s p - p then .error 153 else .ok (⟨1, loP (s.extract p (wordE s p)), 0, p⟩, wordE s p)) := by rfl
  rw [runE_word] at HRW
  have c1 := HT.out.sc.cell1
  clear h hg hL
  have hzs : (s.extract p (wordE s p)).size = wordE s p - p := by rw [ByteArray.size_extract]; omega
  generalize hE : s.extract p (wordE s p) = V at *
  generalize wordE s p = E at *
  go_enter Tryz.func29, Tryz.ntmps29
  go_wp2_with fail
  refine (HRW.out ()).mono ?_
  rintro e w1 ⟨rfl, hsc1, hf1⟩
  have HT1 : Hid (TkS R s w w1 E) := HT.out.next hf1 hsc1
  clear hsc1 hf1 HRW HT c1
  go_wp2_with fail
  refine (Tryz.strings_ToUpper_ascii V w1 (by omega) HA.out).mono ?_
  rintro e w2 ⟨rfl, hb2⟩
  rw [upper_of]
  have HT2 : Hid (TkS R s w w2 E) := HT1.out.below hb2
  clear hb2 HT1
  have HKW : Hid (∀ _ : Unit, _) := fun _ => kwT (upP V) w2 (HT2.out.gx HG.out hR)
  go_wp2_with fail
  refine (HKW.out ()).mono ?_
  rintro e w3 ⟨rfl, rfl⟩
  by_cases hk : isKw (upP V) = true
  · have HE : Hid (wordP s p = .ok (⟨2, upP V, 0, p⟩, E)) := by
      show wordP s p = .ok (⟨2, upP V, 0, p⟩, E)
      rw [HW.out, if_pos hk]
    rw [hk]
    clear hk HW HKW
    obtain ⟨c0, c1, c2, c3, f0, f1, f2, f3⟩ := zTk HT2.out.bx
    go_wp2
    refine bodyPost_ret (results_cell_row rfl _ _ w.heap.size _ _ (0, 0) _ (by rfl) (set4 HT2.out.bx) Tryz.underlying30 rfl infoTk) rfl ⟨?_, (HT2.out.done _ _ _ _).2⟩
    unfold TokR
    rw [HE.out]
    exact ⟨rfl, (HT2.out.done _ _ _ _).1⟩
  · rw [Bool.eq_false_iff.2 hk]
    have HW2 : Hid (wordP s p = if 32 < E - p then .error 153 else .ok (⟨1, loP V, 0, p⟩, E)) := by
      show wordP s p = if 32 < E - p then .error 153 else .ok (⟨1, loP V, 0, p⟩, E)
      rw [HW.out, if_neg hk]
    clear hk HW HKW
    go_wp2_with fail
    refine (Tryz.strings_ToLower_ascii V w3 (by omega) HA.out).mono ?_
    rintro e w4 ⟨rfl, hb4⟩
    rw [lower_of]
    have HT4 : Hid (TkS R s w w4 E) := HT2.out.below hb4
    clear hb4 HT2
    have hz := loP_size V
    by_cases hn : 32 < E - p
    · have HE : Hid (wordP s p = .error 153) := HW2.out.trans (if_pos hn)
      have HNA : Hid (∀ _ : Unit, _) := fun _ => nameAt_no (loP V) p w4 (by omega) (by omega)
      clear hz
      go_wp2_with fail
      refine (HNA.out ()).mono ?_
      rintro e w5 ⟨rfl, hb5⟩
      have HT5 : Hid (TkS R s w w5 E) := HT4.out.below hb5
      clear hb5 HNA
      unfold gaveUp
      go_wp2
      exact ⟨rfl, by unfold TokR; rw [HE.out]; rfl, HT5.out.fr⟩
    · have HE : Hid (wordP s p = .ok (⟨1, loP V, 0, p⟩, E)) := HW2.out.trans (if_neg hn)
      have HNA : Hid (∀ _ : Unit, _) := fun _ => nameAt_ok (loP V) p w4 (by omega)
      clear hz
      go_wp2_with fail
      refine (HNA.out ()).mono ?_
      rintro e w5 ⟨rfl, hb5⟩
      have HT5 : Hid (TkS R s w w5 E) := HT4.out.below hb5
      clear hb5 HNA HT4
      obtain ⟨c0, c1, c2, c3, f0, f1, f2, f3⟩ := zTk HT5.out.bx
      unfold tkC
      go_wp2
      refine bodyPost_ret (results_cell_row rfl _ _ w.heap.size _ _ (0, 0) _ (by rfl) (set4 HT5.out.bx) Tryz.underlying30 rfl infoTk) rfl ⟨?_, (HT5.out.done _ _ _ _).2⟩
      unfold TokR
      rw [HE.out]
      exact ⟨rfl, (HT5.out.done _ _ _ _).1⟩
end Go.Proofs.YtlidkdnfibfnfaaGreatDoor
