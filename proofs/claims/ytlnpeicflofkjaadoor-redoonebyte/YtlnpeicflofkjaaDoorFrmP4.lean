import Derived.Test.YtlnpeicflofkjaaDoorFrmP3
import Derived.Test.YtlnpeicflofkjaaDoorRegG
namespace Go.Proofs.YtlnpeicflofkjaaDoor
set_option linter.unusedSimpArgs false
open Go.ChangeShapes Go.WideShapes Go.ChangeAt Go.RowKit
set_option linter.unusedVariables false
set_option maxRecDepth 100000
/-- What is read of a frame, as a value. -/
def frV (t : ByteArray) : Value := .agg #[.int .i64 (bAt t 2 : Nat), .int .u64 (fxV t 8 8 : Nat), .string (t.extract 24 (24 + fxV t 4 4))]
def FrP (t : ByteArray) (e : Ending) : Prop := (dfE t = 0 → e = .returned (frV t)) ∧ (dfE t ≠ 0 → e = broke (dfE t))
theorem FrP.no {t : ByteArray} {c : Int} (h : dfE t = c) (hc : c ≠ 0) : FrP t (broke c) := ⟨fun h0 => absurd (h.symm.trans h0) hc, fun _ => by rw [h]⟩
theorem BelH.alloc {w W : World} (h : BelH w W) (o : Obj) : BelH w (W.alloc o) := h.next ((Below.refl _ _).alloc (Nat.le_refl _) o)
theorem BelH.set {w W : World} {g : Nat} (h : BelH w W) (hg : w.heap.size ≤ g) (o : Nat) (v : Value) (hh : HalfAt w) : BelH w (W.setCell ⟨g, o, none⟩ v) :=
  have hb := h.1.setCell (p := ⟨g, o, none⟩) hg v
  ⟨hb, hh.later hb⟩
theorem head_same (t : ByteArray) (h : 24 ≤ t.size) : (fxV (t.extract 0 24) 20 4 = crN ((t.extract 0 24).extract 0 20).data.toList) ↔ (fxV t 20 4 = crN (t.extract 0 20).data.toList) := by
  have hb : ∀ i, i < 24 → bAt (t.extract 0 24) i = bAt t i := fun i hi => by
    have := bAt_ext t 0 24 i h (by omega)
    rwa [Nat.zero_add] at this
  have hs : (t.extract 0 24).size = 24 := by rw [ByteArray.size_extract]; omega
  rw [fxV_congr (t.extract 0 24) t 20 4 (fun i hi => hb _ (by omega)), ext_bAt (t.extract 0 24) t 0 20 (by omega) (by omega) (fun i _ hi => hb i (by omega))]
theorem headSum_any (t : ByteArray) (w : World) (h : 24 ≤ t.size) (hT : HalfAt w) : Calls Tryd.prog 29 #[.string (t.extract 0 24)] w fun e w' => e = .returned (.bool (decide (fxV t 20 4 = crN (t.extract 0 20).data.toList))) ∧ Below w.heap.size w w' := by
  have hc := isSummed_any (t.extract 0 24) w (by rw [ByteArray.size_extract]; omega) hT
  have he : decide (fxV (t.extract 0 24) 20 4 = crN ((t.extract 0 24).extract 0 20).data.toList) = decide (fxV t 20 4 = crN (t.extract 0 20).data.toList) := by
    rw [Bool.eq_iff_iff, decide_eq_true_eq, decide_eq_true_eq]; exact head_same t h
  rw [he] at hc
  exact hc
/-- Three cells in a block. -/
def Fr3 (W : World) (g : Nat) (a b c : Value) : Prop := W.heap[g]? = some (.cells #[a, b, c] 27 (0, 0))
theorem Fr3.c0 {W : World} {g : Nat} {a b c : Value} (h : Fr3 W g a b c) : W.cell? ⟨g, 0, none⟩ = some a := by
  unfold Fr3 at h
  simp [World.cell?, h]
theorem Fr3.c1 {W : World} {g : Nat} {a b c : Value} (h : Fr3 W g a b c) : W.cell? ⟨g, 1, none⟩ = some b := by
  unfold Fr3 at h
  simp [World.cell?, h]
theorem Fr3.c2 {W : World} {g : Nat} {a b c : Value} (h : Fr3 W g a b c) : W.cell? ⟨g, 2, none⟩ = some c := by
  unfold Fr3 at h
  simp [World.cell?, h]
theorem Fr3.free {W : World} {g : Nat} {a b c : Value} (h : Fr3 W g a b c) (j : Nat) : W.frozen? ⟨g, j, none⟩ = false := by
  unfold Fr3 at h
  simp [World.frozen?, h]
theorem Fr3.set {W : World} {g : Nat} {a b c : Value} (h : Fr3 W g a b c) (a' b' c' : Value) : Fr3 (((W.setCell ⟨g, 0, none⟩ a').setCell ⟨g, 1, none⟩ b').setCell ⟨g, 2, none⟩ c') g a' b' c' := by
  unfold Fr3 at h ⊢
  simp [World.setCell, Array.getElem?_modify, h]
theorem Fr3.set2 {W : World} {g : Nat} {a b c : Value} (h : Fr3 W g a b c) (c' : Value) : Fr3 (W.setCell ⟨g, 2, none⟩ c') g a b c' := by
  unfold Fr3 at h ⊢
  simp [World.setCell, Array.getElem?_modify, h]
theorem Fr3.later {W W' : World} {g : Nat} {a b c : Value} (h : Fr3 W g a b c) (hb : Below W.heap.size W W') (hg : g < W.heap.size) : Fr3 W' g a b c := (hb.block g hg).trans h
theorem Fr3.lt {W : World} {g : Nat} {a b c : Value} (h : Fr3 W g a b c) : g < W.heap.size := by
  rcases Nat.lt_or_ge g W.heap.size with h1 | h1
  · exact h1
  · unfold Fr3 at h
    rw [Array.getElem?_eq_none h1] at h
    cases h
/-- A frame that is being read, in a block of its own. -/
structure FrS (w W : World) (g : Nat) (k l : Nat) (b : ByteArray) : Prop where
  bel : BelH w W
  ge : w.heap.size ≤ g
  at_ : Fr3 W g (.int .i64 k) (.int .u64 l) (.string b)
theorem checksum_at (h : Nat) (b : ByteArray) (W : World) (hz : b.size ≤ 9223372036854775807) (hc : W.cell? ⟨h, 0, none⟩ = some (.string b)) (hh : h < W.heap.size) (hT : HalfAt W) :
    Calls Tryd.prog 15 #[.slice (some ⟨h, 0, none⟩) 1 1] W fun e w' => e = .returned (.int .u32 (crN b.data.toList : Nat)) ∧ Below W.heap.size W w' := by
  have hs := sees_one (w := W) (p := b) h hc hh
  refine (checksum_any _ [b] _ _ (Nat.le_refl _) hs (by simpa using hz) hT (half_pos hT)).mono fun e w' ⟨he, hb2⟩ => ⟨?_, hb2⟩
  rw [he]
  simp [joinS]
theorem FrS.next {w W W' : World} {g k l : Nat} {b : ByteArray} (h : FrS w W g k l b) (hb : Below W.heap.size W W') : FrS w W' g k l b := ⟨h.bel.next hb, h.ge, h.at_.later hb h.at_.lt⟩
theorem FrS.drew {w W : World} {g k l : Nat} {b : ByteArray} (h : FrS w W g k l b) : FrS w W.drew g k l b := h.next (Below.refl _ _).drew
theorem FrS.alloc {w W : World} {g k l : Nat} {b : ByteArray} (h : FrS w W g k l b) (o : Obj) : FrS w (W.alloc o) g k l b := h.next ((Below.refl _ _).alloc (Nat.le_refl _) o)
theorem FrS.body {w W : World} {g k l : Nat} {b : ByteArray} (h : FrS w W g k l b) (hT : HalfAt w) (c : ByteArray) : FrS w (W.setCell ⟨g, 2, none⟩ (.string c)) g k l c := ⟨h.bel.set h.ge _ _ hT, h.ge, h.at_.set2 _⟩
/-- What stands while the body's sum is asked: the frame, and its body's cell. -/
abbrev FrT (w : World) (g k l : Nat) (b : ByteArray) (W : World) : Prop := FrS w W g k l b ∧ W.cell? ⟨g, 2, none⟩ = some (.string b)
theorem FrS.frT {w W : World} {g k l : Nat} {b : ByteArray} (h : FrS w W g k l b) : FrT w g k l b W := ⟨h, h.at_.c2⟩
theorem FrT.drew {w W : World} {g k l : Nat} {b : ByteArray} (h : FrT w g k l b W) : FrT w g k l b W.drew := h.1.drew.frT
theorem infoFr : (Tryd.prog.info? 27).map (·.size) = some 3 := by kernel_rfl
theorem ret_frame {fn : Func} {p : Tmp} (h : fn.results = #[.cell p 27]) (tmps : Array Value) (w : World) (k l : Int) (t : ByteArray) (g : Nat) (hp : tmps.getD p undef = .pointer (some ⟨g, 0, none⟩)) (hg : Fr3 w g (.int .i64 k) (.int .u64 l) (.string t)) :
    (results fn tmps).run Tryd.prog w = .ok (.agg #[.int .i64 k, .int .u64 l, .string t]) w := by
  have hp' : tmps[p]?.getD undef = .pointer (some ⟨g, 0, none⟩) := by simpa using hp
  unfold Fr3 at hg
  simp [results, h, hp', asAddr, run_loadVar_row w g 27 27 _ (0, 0) _ hg Tryd.underlying27 rfl infoFr]
theorem two_beq (t : ByteArray) : ((t.extract 0 2).toList == [83, 70]) = decide (t.extract 0 2 = strOfNums [83, 70]) := by
  have : (strOfNums [83, 70]).toList = [83, 70] := by rw [ByteArray.toList_eq]; rfl
  rw [← this]
  exact bytes_beq _ _
theorem size_u32 (t : ByteArray) (p : Nat) : fxV t p 4 < 4294967296 := by have := fxV_lt t p 4; omega
set_option maxHeartbeats 1600000 in
theorem frameOf_any (t : ByteArray) (w : World) (hz : t.size ≤ 1125899906842624) (hT : HalfAt w) : Calls Tryd.prog 18 #[.string t] w fun e w' => FrP t e ∧ Below w.heap.size w w' := by
  have HD : Hid (dfE t = if t.size < 24 then 1 else if t.extract 0 2 ≠ strOfNums [83, 70] then 2 else if fxV t 20 4 ≠ crN (t.extract 0 20).data.toList then 3
    else if bAt t 3 ≠ 0 ∨ mayFr (bAt t 2) (fxV t 8 8) (fxV t 4 4) = false then 4
    else if t.size < 24 + fxV t 4 4 then 1
    else if fxV t 16 4 ≠ crN (t.extract 24 (24 + fxV t 4 4)).data.toList then 5 else 0) := rfl
  have HB0 : Hid (Below w.heap.size w (w.alloc (.cells #[.int .i64 0, .int .u64 0, .string ⟨#[]⟩] 27))) := (Below.refl _ _).alloc (Nat.le_refl _) _
  have HH : Hid (BelH (w.alloc (.cells #[.int .i64 0, .int .u64 0, .string ⟨#[]⟩] 27)) (w.alloc (.cells #[.int .i64 0, .int .u64 0, .string ⟨#[]⟩] 27))) := BelH.start (hT.later HB0.out)
  have HX : Hid ((w.alloc (.cells #[.int .i64 0, .int .u64 0, .string ⟨#[]⟩] 27)).heap[w.heap.size]? = some (.cells #[.int .i64 0, .int .u64 0, .string ⟨#[]⟩] 27 (0, 0))) := heap_alloc_new w _
  have hsz : (w.alloc (.cells #[.int .i64 0, .int .u64 0, .string ⟨#[]⟩] 27)).heap.size = w.heap.size + 1 := by simp
  clear hT
  go_enter Tryd.func18, Tryd.ntmps18
  go_wp2_with fail
  generalize w.alloc (.cells #[.int .i64 0, .int .u64 0, .string ⟨#[]⟩] 27) = W0 at *
  by_cases c1 : t.size < 24
  · have d1 : decide ((t.size : Int) < 24) = true := by simp; omega
    rw [d1]
    refine (giveUp_yes 1 _).mono ?_
    rintro e w1 ⟨rfl, rfl⟩
    exact ⟨rfl, FrP.no (by rw [HD.out, if_pos c1]) (by decide), HB0.out⟩
  have d1 : decide ((t.size : Int) < 24) = false := by simp; omega
  rw [d1]
  refine (giveUp_no 1 _).mono ?_
  rintro e w1 ⟨rfl, rfl⟩
  clear d1
  have HD1 : Hid (dfE t = _) := HD.out.trans (if_neg c1)
  clear HD
  have c1' : 24 ≤ t.size := by omega
  clear c1
  go_wp2_with fail
  rw [two_beq]
  by_cases c2 : ¬ t.extract 0 2 = strOfNums [83, 70]
  · have d2 : (!decide (t.extract 0 2 = strOfNums [83, 70])) = true := by simp [c2]
    rw [d2]
    refine (giveUp_yes 2 _).mono ?_
    rintro e w2 ⟨rfl, rfl⟩
    exact ⟨rfl, FrP.no (by rw [HD1.out, if_pos c2]) (by decide), HB0.out⟩
  replace c2 := Decidable.not_not.1 c2
  have d2 : (!decide (t.extract 0 2 = strOfNums [83, 70])) = false := by simp [c2]
  rw [d2]
  refine (giveUp_no 2 _).mono ?_
  rintro e w2 ⟨rfl, rfl⟩
  have HD2 : Hid (dfE t = _) := HD1.out.trans (if_neg (fun h => h c2))
  clear HD1 d2 c2
  go_wp2_with fail
  have HW2 : Hid (HalfAt w2) := HH.out.2
  have hc := headSum_any t _ c1' HH.out.2
  by_cases c3 : ¬ fxV t 20 4 = crN (t.extract 0 20).data.toList
  · rw [decide_eq_false c3] at hc
    refine hc.mono ?_
    clear hc
    rintro e w3 ⟨rfl, hb⟩
    have H3 : Hid (BelH w2 w3) := HH.out.next hb
    have HE : Hid (dfE t = 3) := HD2.out.trans (if_pos c3)
    clear hb HH HD2 c3
    go_wp2_with fail
    refine (giveUp_yes 3 _).mono ?_
    rintro e w4 ⟨rfl, rfl⟩
    exact ⟨rfl, FrP.no HE.out (by decide), HB0.out.trans (H3.out.1.mono (by omega))⟩
  replace c3 := Decidable.not_not.1 c3
  rw [decide_eq_true c3] at hc
  refine hc.mono ?_
  clear hc
  rintro e w3 ⟨rfl, hb⟩
  have H3 : Hid (BelH w2 w3) := HH.out.next hb
  have HD3 : Hid (dfE t = _) := HD2.out.trans (if_neg (fun h => h c3))
  clear hb HH HD2 c3
  go_wp2_with fail
  refine (giveUp_no 3 _).mono ?_
  rintro e w4 ⟨rfl, rfl⟩
  have hk : (t[2]'(by omega)).toNat = bAt t 2 := (bAt_of t 2 (by omega)).symm
  have hk3 : (t[3]'(by omega)).toNat = bAt t 3 := (bAt_of t 3 (by omega)).symm
  have hn4 := size_u32 t 4
  have hwb : IntKind.i64.wrap ((bAt t 2 : Nat) : Int) = ((bAt t 2 : Nat) : Int) := by
    have := (t[2]'(by omega)).toNat_lt
    rw [IntKind.wrap_i64]
    omega
  go_wp2_with fail
  refine (rfix32_any t 4 _ (by omega) hz).mono ?_
  rintro e w5 ⟨rfl, hb⟩
  have H5 : Hid (BelH w2 w5) := H3.out.next hb
  clear hb H3
  go_wp2_with fail
  have HR : Hid (∀ W, BelH w2 W → Calls Tryd.prog 31 #[.string t, .int .i64 8] W fun e w' => e = .returned (.int .u64 (fxV t 8 8 : Nat)) ∧ BelH w2 w') := fun W h => (rfix64_any t 8 W (by omega) hz).mono fun e w' ⟨he, hb⟩ => ⟨he, h.next hb⟩
  have h5 := H5.out
  refine wp_onceG (fun g W => FrS w2 W g (bAt t 2) (fxV t 8 8) ⟨#[]⟩) ?_
  apply Exists.intro
  constructor
  · (refine wp_region_held_drew (S := (fun W => BelH w2 W)) (by kernel_rfl) h5.drew (fun hHeld => ?_); simp only [List.size_toArray, List.length_cons, List.length_nil, Nat.reduceAdd, Array.replicate_succ, Array.replicate_zero, List.push_toArray, List.append_toArray, List.nil_append, List.cons_append])
    (refine tk0 (v := ?_) (by kernel_rfl) (by kernel_rfl) (by kernel_rfl) (fun _ _ _ h => h) (Or.inl ⟨by rfl, ?_⟩) (by assumption) ?_; rotate_left; (focus (intro w hSw; (try dsimp only at hSw); go_simp; (try first | (rw [dif_pos (by omega)]; simp only [Result.andThen_ok]) | rw [if_pos (by omega)]); (try with_reducible rfl); done)); try simp only [Act.put, List.setIfInBounds_toArray, List.set_cons_zero, List.set_cons_succ])
    (refine tk1 (v := ?_) (by kernel_rfl) (by kernel_rfl) (by kernel_rfl) (fun _ _ _ h => h) (Or.inl ⟨by rfl, ?_⟩) (by assumption) ?_; rotate_left; (focus (intro w hSw; (try dsimp only at hSw); go_simp; (try first | (rw [dif_pos (by omega)]; simp only [Result.andThen_ok]) | rw [if_pos (by omega)]); (try with_reducible rfl); done)); try simp only [Act.put, List.setIfInBounds_toArray, List.set_cons_zero, List.set_cons_succ])
    (refine tk2 (v := ?_) (by kernel_rfl) (by kernel_rfl) (by kernel_rfl) (fun _ _ _ h => h) (Or.inl ⟨by rfl, ?_⟩) (by assumption) ?_; rotate_left; (focus (intro w hSw; (try dsimp only at hSw); go_simp; (try first | (rw [dif_pos (by omega)]; simp only [Result.andThen_ok]) | rw [if_pos (by omega)]); (try with_reducible rfl); done)); try simp only [Act.put, List.setIfInBounds_toArray, List.set_cons_zero, List.set_cons_succ])
    (refine tk3 (v := ?_) (by kernel_rfl) (by kernel_rfl) (by kernel_rfl) (fun _ _ _ h => h) (Or.inl ⟨by rfl, ?_⟩) (by assumption) ?_; rotate_left; (focus (intro w hSw; (try dsimp only at hSw); go_simp; (try first | (rw [dif_pos (by omega)]; simp only [Result.andThen_ok]) | rw [if_pos (by omega)]); (try with_reducible rfl); done)); try simp only [Act.put, List.setIfInBounds_toArray, List.set_cons_zero, List.set_cons_succ])
    (refine wpAnyH_ready (rs := [4, 6]) (by kernel_rfl) (by simp) ?_; refine ar4 (fun K hK => ?_) (ar6 (fun K hK => ?_) AllReadyH.nil) <;> go_simp)
    · refine (rfix64_any t 8 _ (by omega) hz).mono ?_
      rintro e w7 ⟨rfl, hb⟩
      have BT : BelH w2 w7 := hHeld.next hb
      have hge : w2.heap.size ≤ w7.heap.size := BT.1.size
      go_wp2_with fail
      (refine hK.out _ _ BT (fun hHeld => ?_); clear hK K; try simp only [Act.put, List.setIfInBounds_toArray, List.set_cons_zero, List.set_cons_succ])
      (refine tk5 (v := ?_) (by kernel_rfl) (by kernel_rfl) (by kernel_rfl) (fun _ _ _ h => h) (Or.inl ⟨by rfl, ?_⟩) (by assumption) ?_; rotate_left; (focus (intro w hSw; (try dsimp only at hSw); go_simp; (try first | (rw [dif_pos (by omega)]; simp only [Result.andThen_ok]) | rw [if_pos (by omega)]); (try with_reducible rfl); done)); try simp only [Act.put, List.setIfInBounds_toArray, List.set_cons_zero, List.set_cons_succ])
      (refine wpAnyH_ready (rs := [6]) (by kernel_rfl) (by simp) ?_; refine ar6 (fun K hK => ?_) AllReadyH.nil; go_simp)
      (refine hK.out _ _ (BelH.alloc BT _) (fun hHeld => ?_); clear hK K; try simp only [Act.put, List.setIfInBounds_toArray, List.set_cons_zero, List.set_cons_succ])
      (refine wpAnyH_ready (rs := [7]) (by kernel_rfl) (by simp) ?_; refine ar7 (fun K hK => ?_) AllReadyH.nil; go_simp)
      (refine hK.out _ _ (BelH.alloc BT _) (fun hHeld => ?_); clear hK K; try simp only [Act.put, List.setIfInBounds_toArray, List.set_cons_zero, List.set_cons_succ])
      refine wpAnyH_done (by kernel_rfl) ?_ _
      generalize hg : w7.heap.size = g at *
      exact Post3.here _ g ⟨BelH.alloc BT _, hge, by subst hg; exact heap_alloc_new w7 _⟩
    · (refine hK.out _ _ (BelH.alloc h5 _).drew (fun hHeld => ?_); clear hK K; try simp only [Act.put, List.setIfInBounds_toArray, List.set_cons_zero, List.set_cons_succ])
      (refine wpAnyH_ready (rs := [4]) (by kernel_rfl) (by simp) ?_; refine ar4 (fun K hK => ?_) AllReadyH.nil; go_simp)
      refine (rfix64_any t 8 _ (by omega) hz).mono ?_
      rintro e w7 ⟨rfl, hb⟩
      have BT : BelH w2 w7 := hHeld.next hb
      have hge : w2.heap.size ≤ w5.heap.size := h5.1.size
      have hat : Fr3 w7 w5.heap.size (.int .i64 0) (.int .u64 0) (.string ⟨#[]⟩) := (hb.block _ (by show _ < (w5.alloc _).heap.size; simp)).trans (heap_alloc_new w5 _)
      go_wp2_with fail
      (refine hK.out _ _ BT (fun hHeld => ?_); clear hK K; try simp only [Act.put, List.setIfInBounds_toArray, List.set_cons_zero, List.set_cons_succ])
      (refine tk5 (v := ?_) (by kernel_rfl) (by kernel_rfl) (by kernel_rfl) (fun _ _ _ h => h) (Or.inl ⟨by rfl, ?_⟩) (by assumption) ?_; rotate_left; (focus (intro w hSw; (try dsimp only at hSw); go_simp; (try first | (rw [dif_pos (by omega)]; simp only [Result.andThen_ok]) | rw [if_pos (by omega)]); (try with_reducible rfl); done)); try simp only [Act.put, List.setIfInBounds_toArray, List.set_cons_zero, List.set_cons_succ])
      generalize w5.heap.size = g at *
      have k0 := hat.c0
      have k1 := hat.c1
      have k2 := hat.c2
      have f0 := hat.free 0
      have f1 := hat.free 1
      have f2 := hat.free 2
      have HAt : Hid (Fr3 w7 g (.int .i64 0) (.int .u64 0) (.string ⟨#[]⟩)) := hat
      clear hat
      (refine wpAnyH_ready (rs := [7]) (by kernel_rfl) (by simp) ?_; refine ar7 (fun K hK => ?_) AllReadyH.nil; go_simp)
      have hS : BelH w2 (((w7.setCell ⟨g, 0, none⟩ (.int .i64 (bAt t 2 : Nat))).setCell ⟨g, 1, none⟩ (.int .u64 (fxV t 8 8 : Nat))).setCell ⟨g, 2, none⟩ (.string ⟨#[]⟩)) := ((BT.set hge _ _ HW2.out).set hge _ _ HW2.out).set hge _ _ HW2.out
      (refine hK.out _ _ hS (fun hHeld => ?_); clear hK K; try simp only [Act.put, List.setIfInBounds_toArray, List.set_cons_zero, List.set_cons_succ])
      refine wpAnyH_done (by kernel_rfl) ?_ _
      exact Post3.here _ g ⟨hS, hge, HAt.out.set _ _ _⟩
  · intro g w8 hfr
    have k0 := hfr.at_.c0
    have k1 := hfr.at_.c1
    have k2 := hfr.at_.c2
    have f2 := hfr.at_.free 2
    have HF : Hid (FrS w2 w8 g (bAt t 2) (fxV t 8 8) ⟨#[]⟩) := hfr
    clear hfr H5 h5 HR hwb hk
    have HN : Hid (mayFr (bAt t 2) (fxV t 8 8) (fxV t 4 4) = mayFr (bAt t 2) (fxV t 8 8) (fxV t 4 4)) := rfl
    have HM : Hid (∀ W, Calls Tryd.prog 12 #[.int .i64 (bAt t 2 : Nat), .int .u64 (fxV t 8 8 : Nat), .int .i64 (fxV t 4 4 : Nat)] W fun e w' => e = .returned (.bool (mayFr (bAt t 2) (fxV t 8 8) (fxV t 4 4))) ∧ w' = W) := fun W => mayFrame_any _ _ _ W
    by_cases c4 : bAt t 3 ≠ 0
    · have HE : Hid (dfE t = 4) := HD3.out.trans (if_pos (.inl c4))
      have d4 : ((bAt t 3 : Int) != 0) = true := by simp; omega
      clear HD3 c4
      go_wp2_with fail
      refine (giveUp_yes 4 _).mono ?_
      rintro e w9 ⟨rfl, rfl⟩
      exact ⟨rfl, FrP.no HE.out (by decide), HB0.out.trans (HF.out.bel.1.mono (by omega))⟩
    · have d4 : ((bAt t 3 : Int) != 0) = false := by simp; omega
      have d4' : ¬ bAt t 3 ≠ 0 := c4
      clear c4
      by_cases c5 : mayFr (bAt t 2) (fxV t 8 8) (fxV t 4 4) = false
      · rw [c5] at HM
        have HE : Hid (dfE t = 4) := HD3.out.trans (if_pos (.inr c5))
        clear HD3 c5 HN d4'
        go_wp2_with fail
        refine (HM.out _).mono ?_
        rintro e w9 ⟨rfl, rfl⟩
        go_wp2_with fail
        refine (giveUp_yes 4 _).mono ?_
        rintro e w9 ⟨rfl, rfl⟩
        exact ⟨rfl, FrP.no HE.out (by decide), HB0.out.trans (HF.out.bel.1.mono (by omega))⟩
      have c5' : mayFr (bAt t 2) (fxV t 8 8) (fxV t 4 4) = true := by simpa using c5
      rw [c5'] at HM
      have HD4 : Hid (dfE t = _) := HD3.out.trans (if_neg (fun h => h.elim d4' c5))
      clear HD3 c5 c5' HN d4'
      go_wp2_with fail
      refine (HM.out _).mono ?_
      rintro e w9 ⟨rfl, rfl⟩
      clear HM
      go_wp2_with fail
      refine (giveUp_no 4 _).mono ?_
      rintro e w9 ⟨rfl, rfl⟩
      by_cases c6 : t.size < 24 + fxV t 4 4
      · have HE : Hid (dfE t = 1) := HD4.out.trans (if_pos c6)
        have d6 : decide ((t.size : Int) - 24 < (fxV t 4 4 : Int)) = true := by simp; omega
        clear HD4
        go_wp2_with fail
        refine (giveUp_yes 1 _).mono ?_
        rintro e w9 ⟨rfl, rfl⟩
        exact ⟨rfl, FrP.no HE.out (by decide), HB0.out.trans (HF.out.bel.1.mono (by omega))⟩
      have HD5 : Hid (dfE t = _) := HD4.out.trans (if_neg c6)
      have d6 : decide ((t.size : Int) - 24 < (fxV t 4 4 : Int)) = false := by simp; omega
      clear HD4
      have c6' : 24 + fxV t 4 4 ≤ t.size := by omega
      clear c6
      go_wp2_with fail
      refine (giveUp_no 1 _).mono ?_
      rintro e w9 ⟨rfl, rfl⟩
      clear d6
      have hbz : (t.extract 24 (24 + fxV t 4 4)).size ≤ 9223372036854775807 := by rw [ByteArray.size_extract]; omega
      have HC0 : Hid (∀ h W, W.cell? ⟨h, 0, none⟩ = some (.string (t.extract 24 (24 + fxV t 4 4))) → h < W.heap.size → HalfAt W → Calls Tryd.prog 15 #[.slice (some ⟨h, 0, none⟩) 1 1] W fun e w' => e = .returned (.int .u32 (crN (t.extract 24 (24 + fxV t 4 4)).data.toList : Nat)) ∧ Below W.heap.size W w') := fun h W a b c => checksum_at h _ W hbz a b c
      have HR : Hid (∀ W, Calls Tryd.prog 30 #[.string t, .int .i64 16] W fun e w' => e = .returned (.int .u32 (fxV t 16 4 : Nat)) ∧ Below W.heap.size W w') := fun W => rfix32_any t 16 W (by omega) hz
      have HV : Hid (frV t = .agg #[.int .i64 (bAt t 2 : Nat), .int .u64 (fxV t 8 8 : Nat), .string (t.extract 24 (24 + fxV t 4 4))]) := rfl
      clear hbz
      generalize crN (t.extract 24 (24 + fxV t 4 4)).data.toList = cb at *
      go_wp2_with fail
      generalize t.extract 24 (24 + fxV t 4 4) = b at *
      have H9 : FrT w2 g (bAt t 2) (fxV t 8 8) b (w9.setCell ⟨g, 2, none⟩ (.string b)) := (HF.out.body HW2.out b).frT
      clear k0 k1 k2 f2 HF
      generalize w9.setCell ⟨g, 2, none⟩ (.string b) = w10 at *
      by_cases c7 : ¬ fxV t 16 4 = cb
      · have HE : Hid (dfE t = 5) := HD5.out.trans (if_pos c7)
        have d7 : ((fxV t 16 4 : Int) != (cb : Int)) = true := by simp; omega
        clear HD5 c7
        (refine wp_region_held_drew (S := (fun W => FrT w2 g (bAt t 2) (fxV t 8 8) b W)) (by kernel_rfl) H9.drew (fun hHeld => ?_); simp only [List.size_toArray, List.length_cons, List.length_nil, Nat.reduceAdd, Array.replicate_succ, Array.replicate_zero, List.push_toArray, List.append_toArray, List.nil_append, List.cons_append])
        (refine tk0 (v := ?_) (by kernel_rfl) (by kernel_rfl) (by kernel_rfl) (fun _ _ _ h => h) (Or.inl ⟨by rfl, ?_⟩) (by assumption) ?_; rotate_left; (focus (intro w hSw; (try dsimp only at hSw); go_simp; (try first | (rw [dif_pos (by omega)]; simp only [Result.andThen_ok]) | rw [if_pos (by omega)]); (try with_reducible rfl); done)); try simp only [Act.put, List.setIfInBounds_toArray, List.set_cons_zero, List.set_cons_succ])
        (refine tk2 (v := ?_) (by kernel_rfl) (by kernel_rfl) (by kernel_rfl) (fun _ _ _ h => h) (Or.inl ⟨by rfl, ?_⟩) (by assumption) ?_; rotate_left; (focus (intro w hSw; (try dsimp only at hSw); go_simp; (try first | (rw [dif_pos (by omega)]; simp only [Result.andThen_ok]) | rw [if_pos (by omega)]); (try with_reducible rfl); done)); try simp only [Act.put, List.setIfInBounds_toArray, List.set_cons_zero, List.set_cons_succ])
        (refine tk3 (v := ?_) (by kernel_rfl) (by kernel_rfl) (by kernel_rfl) (fun _ _ _ h => h) (Or.inl ⟨by rfl, ?_⟩) (by assumption) ?_; rotate_left; (focus (intro w hSw; (try dsimp only at hSw); go_simp; (try first | (rw [dif_pos (by omega)]; simp only [Result.andThen_ok]) | rw [if_pos (by omega)]); (try with_reducible rfl); done)); try simp only [Act.put, List.setIfInBounds_toArray, List.set_cons_zero, List.set_cons_succ])
        (refine wpAnyH_ready (rs := [1, 4]) (by kernel_rfl) (by simp) ?_; refine ar1 (fun K hK => ?_) (ar4 (fun K hK => ?_) AllReadyH.nil) <;> go_simp)
        · refine (HR.out _).mono ?_
          rintro e w11 ⟨rfl, hb⟩
          have F1 := hHeld.1.next hb
          clear hb
          go_wp2_with fail
          (refine hK.out _ _ F1.frT (fun hHeld => ?_); clear hK K; try simp only [Act.put, List.setIfInBounds_toArray, List.set_cons_zero, List.set_cons_succ])
          (refine wpAnyH_ready (rs := [4]) (by kernel_rfl) (by simp) ?_; refine ar4 (fun K hK => ?_) AllReadyH.nil; go_simp)
          (refine hK.out _ _ (F1.alloc _).frT (fun hHeld => ?_); clear hK K; try simp only [Act.put, List.setIfInBounds_toArray, List.set_cons_zero, List.set_cons_succ])
          (refine wpAnyH_ready (rs := [5]) (by kernel_rfl) (by simp) ?_; refine ar5 (fun K hK => ?_) AllReadyH.nil; go_simp)
          refine (HC0.out w11.heap.size _ (by simp) (by simp) (F1.alloc _).bel.2).mono ?_
          rintro e w12 ⟨rfl, hb⟩
          have F2 := (F1.alloc _).next hb
          clear hb
          go_wp2_with fail
          (refine hK.out _ _ F2.frT (fun hHeld => ?_); clear hK K; try simp only [Act.put, List.setIfInBounds_toArray, List.set_cons_zero, List.set_cons_succ])
          (refine tk6 (v := ?_) (by kernel_rfl) (by kernel_rfl) (by kernel_rfl) (fun _ _ _ h => h) (Or.inl ⟨by rfl, ?_⟩) (by assumption) ?_; rotate_left; (focus (intro w hSw; (try dsimp only at hSw); go_simp; (try first | (rw [dif_pos (by omega)]; simp only [Result.andThen_ok]) | rw [if_pos (by omega)]); (try with_reducible rfl); done)); try simp only [Act.put, List.setIfInBounds_toArray, List.set_cons_zero, List.set_cons_succ])
          (refine wpAnyH_ready (rs := [7]) (by kernel_rfl) (by simp) ?_; refine ar7 (fun K hK => ?_) AllReadyH.nil; go_simp)
          refine (giveUp_yes 5 _).mono ?_
          rintro e w15 ⟨rfl, rfl⟩
          exact ⟨rfl, FrP.no HE.out (by decide), HB0.out.trans ((F2.bel.1.mono (by omega)))⟩
        · (refine hK.out _ _ (H9.1.alloc _).drew.frT (fun hHeld => ?_); clear hK K; try simp only [Act.put, List.setIfInBounds_toArray, List.set_cons_zero, List.set_cons_succ])
          have hcl : (w10.alloc (.cells #[.string b] 9)).drew.cell? ⟨w10.heap.size, 0, none⟩ = some (.string b) := by simp
          have hlt : w10.heap.size < (w10.alloc (.cells #[.string b] 9)).drew.heap.size := by show _ < (w10.alloc _).heap.size; simp
          (refine wpAnyH_ready (rs := [1]) (by kernel_rfl) (by simp) ?_; refine ar1 (fun K hK => ?_) AllReadyH.nil; go_simp)
          refine (HR.out _).mono ?_
          rintro e w11 ⟨rfl, hb⟩
          have F1 := hHeld.1.next hb
          have hcl2 := (hb.cell (p := ⟨w10.heap.size, 0, none⟩) hlt).trans hcl
          have hlt2 : w10.heap.size < w11.heap.size := Nat.lt_of_lt_of_le hlt hb.size
          clear hb
          go_wp2_with fail
          (refine hK.out _ _ F1.frT (fun hHeld => ?_); clear hK K; try simp only [Act.put, List.setIfInBounds_toArray, List.set_cons_zero, List.set_cons_succ])
          (refine wpAnyH_ready (rs := [5]) (by kernel_rfl) (by simp) ?_; refine ar5 (fun K hK => ?_) AllReadyH.nil; go_simp)
          refine (HC0.out w10.heap.size _ hcl2 hlt2 F1.bel.2).mono ?_
          rintro e w12 ⟨rfl, hb⟩
          have F2 := F1.next hb
          clear hb
          go_wp2_with fail
          (refine hK.out _ _ F2.frT (fun hHeld => ?_); clear hK K; try simp only [Act.put, List.setIfInBounds_toArray, List.set_cons_zero, List.set_cons_succ])
          (refine tk6 (v := ?_) (by kernel_rfl) (by kernel_rfl) (by kernel_rfl) (fun _ _ _ h => h) (Or.inl ⟨by rfl, ?_⟩) (by assumption) ?_; rotate_left; (focus (intro w hSw; (try dsimp only at hSw); go_simp; (try first | (rw [dif_pos (by omega)]; simp only [Result.andThen_ok]) | rw [if_pos (by omega)]); (try with_reducible rfl); done)); try simp only [Act.put, List.setIfInBounds_toArray, List.set_cons_zero, List.set_cons_succ])
          (refine wpAnyH_ready (rs := [7]) (by kernel_rfl) (by simp) ?_; refine ar7 (fun K hK => ?_) AllReadyH.nil; go_simp)
          refine (giveUp_yes 5 _).mono ?_
          rintro e w15 ⟨rfl, rfl⟩
          exact ⟨rfl, FrP.no HE.out (by decide), HB0.out.trans ((F2.bel.1.mono (by omega)))⟩
      replace c7 := Decidable.not_not.1 c7
      have HE : Hid (dfE t = 0) := HD5.out.trans (if_neg (fun h => h c7))
      have d7 : ((fxV t 16 4 : Int) != (cb : Int)) = false := by simp; omega
      clear HD5 c7
      refine wp_onceG (fun h W => FrS w2 W g (bAt t 2) (fxV t 8 8) b) ?_
      apply Exists.intro
      constructor
      · (refine wp_region_held_drew (S := (fun W => FrT w2 g (bAt t 2) (fxV t 8 8) b W)) (by kernel_rfl) H9.drew (fun hHeld => ?_); simp only [List.size_toArray, List.length_cons, List.length_nil, Nat.reduceAdd, Array.replicate_succ, Array.replicate_zero, List.push_toArray, List.append_toArray, List.nil_append, List.cons_append])
        (refine tk0 (v := ?_) (by kernel_rfl) (by kernel_rfl) (by kernel_rfl) (fun _ _ _ h => h) (Or.inl ⟨by rfl, ?_⟩) (by assumption) ?_; rotate_left; (focus (intro w hSw; (try dsimp only at hSw); go_simp; (try first | (rw [dif_pos (by omega)]; simp only [Result.andThen_ok]) | rw [if_pos (by omega)]); (try with_reducible rfl); done)); try simp only [Act.put, List.setIfInBounds_toArray, List.set_cons_zero, List.set_cons_succ])
        (refine tk2 (v := ?_) (by kernel_rfl) (by kernel_rfl) (by kernel_rfl) (fun _ _ _ h => h) (Or.inl ⟨by rfl, ?_⟩) (by assumption) ?_; rotate_left; (focus (intro w hSw; (try dsimp only at hSw); go_simp; (try first | (rw [dif_pos (by omega)]; simp only [Result.andThen_ok]) | rw [if_pos (by omega)]); (try with_reducible rfl); done)); try simp only [Act.put, List.setIfInBounds_toArray, List.set_cons_zero, List.set_cons_succ])
        (refine tk3 (v := ?_) (by kernel_rfl) (by kernel_rfl) (by kernel_rfl) (fun _ _ _ h => h) (Or.inl ⟨by rfl, ?_⟩) (by assumption) ?_; rotate_left; (focus (intro w hSw; (try dsimp only at hSw); go_simp; (try first | (rw [dif_pos (by omega)]; simp only [Result.andThen_ok]) | rw [if_pos (by omega)]); (try with_reducible rfl); done)); try simp only [Act.put, List.setIfInBounds_toArray, List.set_cons_zero, List.set_cons_succ])
        (refine wpAnyH_ready (rs := [1, 4]) (by kernel_rfl) (by simp) ?_; refine ar1 (fun K hK => ?_) (ar4 (fun K hK => ?_) AllReadyH.nil) <;> go_simp)
        · refine (HR.out _).mono ?_
          rintro e w11 ⟨rfl, hb⟩
          have F1 := hHeld.1.next hb
          clear hb
          go_wp2_with fail
          (refine hK.out _ _ F1.frT (fun hHeld => ?_); clear hK K; try simp only [Act.put, List.setIfInBounds_toArray, List.set_cons_zero, List.set_cons_succ])
          (refine wpAnyH_ready (rs := [4]) (by kernel_rfl) (by simp) ?_; refine ar4 (fun K hK => ?_) AllReadyH.nil; go_simp)
          (refine hK.out _ _ (F1.alloc _).frT (fun hHeld => ?_); clear hK K; try simp only [Act.put, List.setIfInBounds_toArray, List.set_cons_zero, List.set_cons_succ])
          (refine wpAnyH_ready (rs := [5]) (by kernel_rfl) (by simp) ?_; refine ar5 (fun K hK => ?_) AllReadyH.nil; go_simp)
          refine (HC0.out w11.heap.size _ (by simp) (by simp) (F1.alloc _).bel.2).mono ?_
          rintro e w12 ⟨rfl, hb⟩
          have F2 := (F1.alloc _).next hb
          clear hb
          go_wp2_with fail
          (refine hK.out _ _ F2.frT (fun hHeld => ?_); clear hK K; try simp only [Act.put, List.setIfInBounds_toArray, List.set_cons_zero, List.set_cons_succ])
          (refine tk6 (v := ?_) (by kernel_rfl) (by kernel_rfl) (by kernel_rfl) (fun _ _ _ h => h) (Or.inl ⟨by rfl, ?_⟩) (by assumption) ?_; rotate_left; (focus (intro w hSw; (try dsimp only at hSw); go_simp; (try first | (rw [dif_pos (by omega)]; simp only [Result.andThen_ok]) | rw [if_pos (by omega)]); (try with_reducible rfl); done)); try simp only [Act.put, List.setIfInBounds_toArray, List.set_cons_zero, List.set_cons_succ])
          (refine wpAnyH_ready (rs := [7]) (by kernel_rfl) (by simp) ?_; refine ar7 (fun K hK => ?_) AllReadyH.nil; go_simp)
          refine (giveUp_no 5 _).mono ?_
          rintro e w15 ⟨rfl, rfl⟩
          go_wp2_with fail
          (refine hK.out _ _ F2.frT (fun hHeld => ?_); clear hK K; try simp only [Act.put, List.setIfInBounds_toArray, List.set_cons_zero, List.set_cons_succ])
          refine wpAnyH_done (by kernel_rfl) ?_ _
          generalize hgg : w11.heap.size = h at *
          exact Post3.here _ h F2
        · (refine hK.out _ _ (H9.1.alloc _).drew.frT (fun hHeld => ?_); clear hK K; try simp only [Act.put, List.setIfInBounds_toArray, List.set_cons_zero, List.set_cons_succ])
          have hcl : (w10.alloc (.cells #[.string b] 9)).drew.cell? ⟨w10.heap.size, 0, none⟩ = some (.string b) := by simp
          have hlt : w10.heap.size < (w10.alloc (.cells #[.string b] 9)).drew.heap.size := by show _ < (w10.alloc _).heap.size; simp
          (refine wpAnyH_ready (rs := [1]) (by kernel_rfl) (by simp) ?_; refine ar1 (fun K hK => ?_) AllReadyH.nil; go_simp)
          refine (HR.out _).mono ?_
          rintro e w11 ⟨rfl, hb⟩
          have F1 := hHeld.1.next hb
          have hcl2 := (hb.cell (p := ⟨w10.heap.size, 0, none⟩) hlt).trans hcl
          have hlt2 : w10.heap.size < w11.heap.size := Nat.lt_of_lt_of_le hlt hb.size
          clear hb
          go_wp2_with fail
          (refine hK.out _ _ F1.frT (fun hHeld => ?_); clear hK K; try simp only [Act.put, List.setIfInBounds_toArray, List.set_cons_zero, List.set_cons_succ])
          (refine wpAnyH_ready (rs := [5]) (by kernel_rfl) (by simp) ?_; refine ar5 (fun K hK => ?_) AllReadyH.nil; go_simp)
          refine (HC0.out w10.heap.size _ hcl2 hlt2 F1.bel.2).mono ?_
          rintro e w12 ⟨rfl, hb⟩
          have F2 := F1.next hb
          clear hb
          go_wp2_with fail
          (refine hK.out _ _ F2.frT (fun hHeld => ?_); clear hK K; try simp only [Act.put, List.setIfInBounds_toArray, List.set_cons_zero, List.set_cons_succ])
          (refine tk6 (v := ?_) (by kernel_rfl) (by kernel_rfl) (by kernel_rfl) (fun _ _ _ h => h) (Or.inl ⟨by rfl, ?_⟩) (by assumption) ?_; rotate_left; (focus (intro w hSw; (try dsimp only at hSw); go_simp; (try first | (rw [dif_pos (by omega)]; simp only [Result.andThen_ok]) | rw [if_pos (by omega)]); (try with_reducible rfl); done)); try simp only [Act.put, List.setIfInBounds_toArray, List.set_cons_zero, List.set_cons_succ])
          (refine wpAnyH_ready (rs := [7]) (by kernel_rfl) (by simp) ?_; refine ar7 (fun K hK => ?_) AllReadyH.nil; go_simp)
          refine (giveUp_no 5 _).mono ?_
          rintro e w15 ⟨rfl, rfl⟩
          go_wp2_with fail
          (refine hK.out _ _ F2.frT (fun hHeld => ?_); clear hK K; try simp only [Act.put, List.setIfInBounds_toArray, List.set_cons_zero, List.set_cons_succ])
          refine wpAnyH_done (by kernel_rfl) ?_ _
          generalize hgg : w10.heap.size = h at *
          exact Post3.here _ h F2
      · intro h w16 hfr
        have k0 := hfr.at_.c0
        have k1 := hfr.at_.c1
        have k2 := hfr.at_.c2
        have hz3 : Fr3 w16 w.heap.size (.int .i64 0) (.int .u64 0) (.string ⟨#[]⟩) := (hfr.bel.1.block _ (by omega)).trans HX.out
        have z0 := hz3.c0
        have z1 := hz3.c1
        have z2 := hz3.c2
        have y0 := hz3.free 0
        have y1 := hz3.free 1
        have y2 := hz3.free 2
        have HZ : Hid (Fr3 w16 w.heap.size (.int .i64 0) (.int .u64 0) (.string ⟨#[]⟩)) := hz3
        have HF : Hid (FrS w2 w16 g (bAt t 2) (fxV t 8 8) b) := hfr
        clear hfr hz3
        go_wp2
        refine bodyPost_ret (ret_frame rfl _ _ _ _ _ w.heap.size (by rfl) (HZ.out.set _ _ _)) rfl ⟨⟨fun _ => ?_, fun h0 => absurd HE.out h0⟩, ?_⟩
        · rw [HV.out]
        · have hb := HB0.out.trans (HF.out.bel.1.mono (by omega))
          exact ((hb.setCell (p := ⟨w.heap.size, 0, none⟩) (Nat.le_refl _) _).setCell (p := ⟨w.heap.size, 1, none⟩) (Nat.le_refl _) _).setCell (p := ⟨w.heap.size, 2, none⟩) (Nat.le_refl _) _
end Go.Proofs.YtlnpeicflofkjaaDoor
