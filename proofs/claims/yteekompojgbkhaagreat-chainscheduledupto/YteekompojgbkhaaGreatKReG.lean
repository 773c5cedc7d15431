import Derived.Test.YteekompojgbkhaaGreatKReE
namespace Go.Proofs.YteekompojgbkhaaGreat
open Go.ChangeShapes Go.WideShapes Go.ChangeAt Go.RowKit Go.MuLone Go.RwLone
set_option linter.unusedVariables false
set_option maxRecDepth 100000
set_option maxHeartbeats 6400000
theorem RoLe {S : AS} {c t : Nat} {n0 n : Int} {pre : List (Int × Bool)} (e : rowL S c 4096 n0 = pre ++ rowL S c (4096 - pre.length) n) (hn : liv S n = false ∨ pre.length = 4096) : rowL S c 4096 n0 = pre := by
  rcases hn with h | h
  · rw [e, rowL_no h, List.append_nil]
  · rw [e, h]
    exact List.append_nil _
theorem RoLs {S : AS} {c : Nat} {n0 n : Int} {pre : List (Int × Bool)} (e : rowL S c 4096 n0 = pre ++ rowL S c (4096 - pre.length) n) (hl : liv S n = true) (hp : pre.length < 4096) : rowL S c 4096 n0 = (pre ++ [(n, S.word (atC S n c) % 2 == 1)]) ++ rowL S c (4096 - (pre ++ [(n, S.word (atC S n c) % 2 == 1)]).length) (S.word (atC S n c) / 2) := by
  rw [e, show 4096 - pre.length = (4096 - (pre.length + 1)) + 1 from by omega, rowL_yes hl, List.append_assoc, List.length_append]
  rfl
theorem keepsN {w a b : World} {L : Lay} {N : Nat} (k : Keeps (fun g => L.has g ∨ N ≤ g) w a) (h : Below N a b) : Keeps (fun g => L.has g ∨ N ≤ g) w b := ⟨h.os.trans k.os, h.tape.trans k.tape, h.output.trans k.output, Nat.le_trans k.size h.size, fun x hx hn => (h.block x (by by_cases e : N ≤ x; exact absurd (Or.inr e) hn; omega)).trans (k.block x hx hn)⟩
theorem CH.below {w w' : World} {L : Lay} {Q : List Nat} {S : AS} {X : XL} {x : XS} {N : Nat} (h : CH w L Q S X x) (hN : ∀ g, chF L X g → g < N) (hs : N ≤ w.heap.size) (b : Below N w w') : CH w' L Q S X x := h.keeps (D := fun g => N ≤ g) ⟨b.os, b.tape, b.output, b.size, fun k _ hn => b.block k (by omega)⟩ (fun g hg e => by have := hN g hg; omega)
theorem look_list (w : World) (L : Lay) (Q : List Nat) (S : AS) (X : XL) (x : XS) (b N : Nat) (c1 : Value) (P : List (Int × Bool) → World → Prop) (hb : b < x.nb) (h : CH w L Q S X x) (hk : WdOk S x) (hN : ∀ g, chF L X g → g < N) (hs : N ≤ w.heap.size) (hp : P [] w) (hn : S.n ≤ 4096)
    (hX : ∀ pre W W', Keeps L.has W W' → P pre W → P pre W') (HC : Hid (∀ (pre : List (Int × Bool)) (n : Int) (m : Bool) (W : World), P pre W → pre.length < 4096 → N ≤ W.heap.size → Calls Tryz.prog 52 #[.int .i64 n, .bool m, c1] W fun e w' => e = .returned (.tuple #[]) ∧ P (pre ++ [(n, m)]) w' ∧ Below N W w')) :
    Calls Tryz.prog 44 #[.pointer (some ⟨X.x, 0, none⟩), .int .i64 (b : Int), .func (.func 52) #[] #[c1]] w fun e w' => e = .returned (.int .i64 0) ∧ CH w' L Q S X x ∧ P (rowX S x b) w' ∧ Keeps (fun g => L.has g ∨ N ≤ g) w w' := by
  have hh := hk.2 b hb
  have H0 : Hid (CH w L Q S X x ∧ P [] w) := ⟨h, hp⟩
  have HX : Hid (∀ pre W W', Keeps L.has W W' → P pre W → P pre W') := hX
  have HNN : Hid ((∀ g, chF L X g → g < N) ∧ N ≤ w.heap.size) := ⟨hN, hs⟩
  have HK : Hid (∀ i, LkOk (S.word i)) := hk.1
  have HH : Hid (∀ _ : Unit, _) := fun _ => ix_has w L.b X x (b : Int) h.i
  rw [inB_of x b hb] at HH
  have c2 := h.i.c2
  have hd := h.i.hd b hb
  have b0 : (0 : Int) ≤ (b : Int) := Int.natCast_nonneg _
  have b1 : (b : Int) < (x.nb : Int) := by omega
  have hnb := h.i.nb
  have hcw := h.c
  have hwd := h.a.h.hw.2
  obtain ⟨v0, hv0⟩ : ∃ v0, x.hd b = v0 := ⟨_, rfl⟩
  have HRX : Hid (rowX S x b = rowL S x.cell 4096 (v0 / 2)) := by rw [← hv0]; rfl
  rw [hv0] at hd hh
  have HT : Hid (∀ (v : Int) (W : World), LkOk v → Calls Tryz.prog 81 #[.int .u64 v] W fun e w' => e = .returned (.tuple #[.int .i64 (v / 2), .bool (v % 2 == 1)]) ∧ w' = W) := fun v W hv => take_any v W hv
  have HL : Hid (∀ _ : Unit, _) := fun _ => u64_load ⟨X.h, b, none⟩ v0 w hd
  have HV : Hid (LkOk v0) := hh
  clear h hk hh hv0 hp hX hN hs
  go_enter Tryz.func44, Tryz.ntmps44
  go_wp2_with fail
  refine (HH.out ()).mono ?_
  rintro e w1 ⟨rfl, hw1⟩
  rw [hw1]
  clear hw1 w1 HH
  go_wp2_with fail
  refine (HL.out ()).mono ?_
  rintro e w1 ⟨rfl, hw1⟩
  rw [hw1]
  clear hw1 w1 HL
  go_wp2_with fail
  refine (HT.out v0 w HV.out).mono ?_
  rintro e w1 ⟨rfl, hw1⟩
  rw [hw1]
  clear hw1 w1 c2 hd
  go_wp2_with fail
  go_loopw [7, 30] (fun nv i wr => ∃ (pre : List (Int × Bool)) (n : Int), nv = .int .i64 n ∧ i = .int .i64 (pre.length : Int) ∧ pre.length ≤ 4096 ∧ (0 ≤ n ∧ n ≤ 2147483647) ∧ rowL S x.cell 4096 (v0 / 2) = pre ++ rowL S x.cell (4096 - pre.length) n ∧ CH wr L Q S X x ∧ P pre wr ∧ Keeps (fun g => L.has g ∨ N ≤ g) w wr) (fun _ i _ => 4096 - (intOf i).toNat)
  case atStart => exact ⟨[], v0 / 2, rfl, rfl, by simp, ⟨by have := HV.out.1; omega, by have := HV.out.2; omega⟩, rfl, H0.out.1, H0.out.2, Keeps.refl _ _⟩
  case round =>
    obtain ⟨pre, n, rfl, rfl, hl, hn2, hR, hch, hP, hkp⟩ := hrel
    have HR : Hid (rowL S x.cell 4096 (v0 / 2) = pre ++ rowL S x.cell (4096 - pre.length) n) := hR
    have HS : Hid (CH wr L Q S X x ∧ P pre wr ∧ Keeps (fun g => L.has g ∨ N ≤ g) w wr) := ⟨hch, hP, hkp⟩
    have d0 := hch.i.c0
    clear hR hch hP hkp
    by_cases h5 : pre.length < 4096
    · have t1 : (pre.length : Int) < 4096 := by omega
      cases hlv : liv S n with
      | false =>
        have HF : Hid (rowX S x b = pre) := by
          show _ = _
          rw [HRX.out]
          exact RoLe (t := 0) HR.out (.inl hlv)
        have HP : Hid (∀ _ : Unit, _) := fun _ => arn_peek_no L S wr Q n HS.out.1.a hlv
        clear hlv
        go_wp2_with fail
        refine (HP.out ()).mono ?_
        rintro e w1 ⟨rfl, ha, ka⟩
        have HZ : Hid (CH w1 L Q S X x ∧ P (rowX S x b) w1 ∧ Keeps (fun g => L.has g ∨ N ≤ g) w w1) := by
          refine ⟨HS.out.1.arn ha ka rfl, ?_, HS.out.2.2.trans (ka.mono (fun _ e => .inl e))⟩
          rw [HF.out]
          exact HX.out _ _ _ ka HS.out.2.1
        clear ha ka HP HS d0
        go_wp2
        go_ret
        exact ⟨rfl, HZ.out⟩
      | true =>
        have HSt : Hid (∀ _ : Unit, _) := fun _ => RoLs HR.out hlv h5
        have HP : Hid (∀ _ : Unit, _) := fun _ => arn_peek L S wr Q n HS.out.1.a hlv
        obtain ⟨v, hv⟩ : ∃ v, S.word (atC S n x.cell) = v := ⟨_, rfl⟩
        have HVn : Hid (LkOk v) := by rw [← hv]; exact HK.out _
        rw [hv] at HSt
        have HVV : Hid (S.word (atC S n x.cell) = v) := hv
        have cw1 : (x.cell : Int) < (S.wd : Int) := by omega
        have cw0 : (0 : Int) ≤ (x.cell : Int) := Int.natCast_nonneg _
        clear hlv hv
        go_wp2_with fail
        refine (HP.out ()).mono ?_
        rintro e w3 ⟨g, rfl, ⟨ha, ka⟩, pk⟩
        have g3 : w3.cell? ⟨g, x.cell, none⟩ = some (.int .u64 v) := by rw [pk.wd x.cell hcw, HVV.out]
        have H3 : Hid (CH w3 L Q S X x ∧ P pre w3 ∧ Keeps (fun g => L.has g ∨ N ≤ g) w w3) := ⟨HS.out.1.arn ha ka rfl, HX.out _ _ _ ka HS.out.2.1, HS.out.2.2.trans (ka.mono (fun _ e => .inl e))⟩
        have d1 := H3.out.1.i.c1
        clear ha ka pk HP HS d0
        go_wp2_with fail
        refine (HT.out v w3 HVn.out).mono ?_
        rintro e w1 ⟨rfl, hw1⟩
        rw [hw1]
        clear hw1 w1 g3 d1
        obtain ⟨mb, hmb⟩ : ∃ mb, (v % 2 == 1) = mb := ⟨_, rfl⟩
        rw [hmb]
        rw [hmb] at HSt
        clear hmb
        go_wp2_with fail
        refine (HC.out pre n mb w3 H3.out.2.1 h5 (Nat.le_trans HNN.out.2 H3.out.2.2.size)).mono ?_
        rintro e w4 ⟨rfl, p4, b4⟩
        have HZ : Hid (CH w4 L Q S X x ∧ P (pre ++ [(n, mb)]) w4 ∧ Keeps (fun g => L.has g ∨ N ≤ g) w w4) := ⟨H3.out.1.below HNN.out.1 (Nat.le_trans HNN.out.2 H3.out.2.2.size) b4, p4, keepsN H3.out.2.2 b4⟩
        clear p4 b4 H3
        go_wp2
        go_roundw
        case rel => exact ⟨pre ++ [(n, mb)], v / 2, rfl, by rw [List.length_append]; go_num, by rw [List.length_append]; simp; omega, ⟨by have := HVn.out.1; omega, by have := HVn.out.2; omega⟩, HSt.out (), HZ.out⟩
        case measure => simp [intOf]; omega
    · have t1 : ¬ (pre.length : Int) < 4096 := by omega
      have HF : Hid (rowX S x b = pre) := by
        show _ = _
        rw [HRX.out]
        exact RoLe (t := 0) HR.out (.inr (by omega))
      go_wp2
      go_ret
      rw [HF.out]
      exact ⟨rfl, HS.out⟩
/-- What List's closure holds. -/
structure LsP (bb : Nat) (pre : List (Int × Bool)) (W : World) : Prop where
  c : ∃ v, W.cell? ⟨bb, 0, none⟩ = some v ∧ OwI W (bb + 1) v (pickL pre)
  f : W.frozen? ⟨bb, 0, none⟩ = false
  l : bb < W.heap.size
theorem LsP.keeps {L : Lay} {bb : Nat} {pre : List (Int × Bool)} {W W' : World} (h : LsP bb pre W) (k : Keeps L.has W W') (hb : ∀ g, L.has g → g < bb) : LsP bb pre W' := by
  have hn : ¬ L.has bb := fun e => by have := hb bb e; omega
  obtain ⟨v, h1, h2⟩ := h.c
  exact ⟨⟨v, (k.cell (p := ⟨bb, 0, none⟩) h.l hn).trans h1, owK h2 k (fun g hg e => by have := (World.ownsRow.lt h2 g hg).1; have := hb g e; omega)⟩, (k.frozen (p := ⟨bb, 0, none⟩) h.l hn).trans h.f, Nat.lt_of_lt_of_le h.l k.size⟩
theorem list1_any (bb : Nat) (pre : List (Int × Bool)) (n : Int) (m : Bool) (W : World) (h : LsP bb pre W) (hl : pre.length < 4096) : Calls Tryz.prog 52 #[.int .i64 n, .bool m, .pointer (some ⟨bb, 0, none⟩)] W fun e w' => e = .returned (.tuple #[]) ∧ LsP bb (pre ++ [(n, m)]) w' ∧ Below bb W w' := by
  obtain ⟨v, h1, h2⟩ := h.c
  have hf := h.f
  have pl := pickL_len pre
  have HW : Hid (LsP bb pre W) := h
  have HE := pickL_app pre n m
  cases m with
  | true =>
    have HZ : Hid (LsP bb (pre ++ [(n, true)]) W) := ⟨⟨v, h1, by rw [HE]; exact h2⟩, h.f, h.l⟩
    clear h h2 HE
    go_enter Tryz.func52, Tryz.ntmps52
    go_wp2
    exact ⟨rfl, .tuple #[], by simp [results, Tryz.results52], rfl, HZ.out, Below.refl _ _⟩
  | false =>
    have HE2 : Hid (pickL (pre ++ [(n, false)]) = pickL pre ++ [n]) := HE
    obtain ⟨sp, cp, hsp⟩ := h2.form
    subst hsp
    have HO : Hid (OwI W (bb + 1) (.slice sp (pickL pre).length cp) (pickL pre)) := h2
    clear h h2 HE
    go_enter Tryz.func52, Tryz.ntmps52
    generalize hxs : pickL pre = xs at *
    go_wp2_with (at_builtin; refine hideG ?_)
    change wpList _ _ _ _ _ _
    refine app_one (cs := inZ) (wr := W) (by rfl) _ _ 31 3 (by rfl) Tryz.underlying31 infoZ rfl (by decide) (fun _ => rfl) (bb + 1) _ xs n HO.out (by rfl) W.heap.size rfl (by rfl) (inZ_one _) _ rfl (by unfold maxLen; omega) (by omega) HW.out.l ?_
    intro v' w3 ho3 hb3 hk3
    obtain ⟨l4, c4, hl4⟩ := ho3.form
    rw [List.length_append, List.length_singleton] at hl4
    subst hl4
    have e1 : w3.cell? ⟨bb, 0, none⟩ = some (.slice sp xs.length cp) := (hb3.cell (p := ⟨bb, 0, none⟩) (by show bb < bb + 1; omega)).trans h1
    have e2 : w3.frozen? ⟨bb, 0, none⟩ = false := (hb3.frozen (p := ⟨bb, 0, none⟩) (by show bb < bb + 1; omega)).trans hf
    have HZ : Hid (LsP bb (pre ++ [(n, false)]) (w3.setCell ⟨bb, 0, none⟩ (.slice l4 (xs.length + 1) c4)) ∧ Below bb W (w3.setCell ⟨bb, 0, none⟩ (.slice l4 (xs.length + 1) c4))) := by
      refine ⟨⟨⟨_, World.cell?_setCell_same _ _ _ e1, ?_⟩, by simpa using e2, ?_⟩, (Below.mono hb3 (show bb ≤ bb + 1 by omega)).setCell (p := ⟨bb, 0, none⟩) (Nat.le_refl _) _⟩
      · rw [HE2.out]
        exact ho3.set (p := ⟨bb, 0, none⟩) (by show bb < bb + 1; omega) _
      · have := HW.out.l
        have := hb3.size
        simp
        omega
    clear ho3 hb3 hk3 HO h1 hf
    go_wp2
    exact ⟨rfl, .tuple #[], by simp [results, Tryz.results52], rfl, HZ.out⟩
theorem ix_list (w : World) (L : Lay) (Q : List Nat) (S : AS) (X : XL) (x : XS) (b : Nat) (hb : b < x.nb) (h : CH w L Q S X x) (hk : WdOk S x) (hn : S.n ≤ 4096) : Calls Tryz.prog 31 #[.pointer (some ⟨X.x, 0, none⟩), .int .i64 (b : Int)] w fun e w' => ∃ v, e = .returned (.tuple #[v, .int .i64 0]) ∧ (OwI w' w.heap.size v (pickL (rowX S x b)) ∧ CH w' L Q S X x) ∧ Keeps L.has w w' := by
  have HC : Hid (∀ W, W = w.alloc (.cells #[.slice none 0 0] 31) → Calls Tryz.prog 44 #[.pointer (some ⟨X.x, 0, none⟩), .int .i64 (b : Int), .func (.func 52) #[] #[.pointer (some ⟨w.heap.size, 0, none⟩)]] W fun e w' => e = .returned (.int .i64 0) ∧ Hid (CH w' L Q S X x ∧ Keeps L.has w w') ∧ (∃ v, w'.cell? ⟨w.heap.size, 0, none⟩ = some v ∧ OwI w' w.heap.size v (pickL (rowX S x b)))) := by
    rintro W rfl
    have hg := heap_alloc_new w (.cells #[.slice none 0 0] 31)
    have ka : Keeps (fun _ => False) w (w.alloc (.cells #[.slice none 0 0] 31)) := (Keeps.refl _ _).alloc _
    refine (look_list (w.alloc (.cells #[.slice none 0 0] 31)) L Q S X x b w.heap.size _ (LsP w.heap.size) hb (h.keeps ka (fun _ _ e => e)) hk h.lt (by simp) ⟨⟨_, (cell?_heap hg 0).trans rfl, OwG.nil _ _ _ _ _⟩, frozen?_heap hg 0, by simp⟩ hn (fun pre W W' k hp => hp.keeps k (fun g hg => h.lt g (.inl hg))) (fun pre n m W hp hl hs => list1_any w.heap.size pre n m W hp hl)).mono ?_
    rintro e w' ⟨rfl, h1, h2, h3⟩
    obtain ⟨v, e1, e2⟩ := h2.c
    exact ⟨rfl, ⟨h1, Keeps.fresh (((ka.mono (fun _ e => e.elim)).trans h3))⟩, v, e1, e2.down (by omega)⟩
  clear h hk
  go_enter Tryz.func31, Tryz.ntmps31
  go_wp2_with fail
  refine (HC.out _ rfl).mono ?_
  rintro e w1 ⟨rfl, h1, v, h2, h3⟩
  have H3 : Hid (OwI w1 w.heap.size v (pickL (rowX S x b))) := h3
  clear h3 HC
  go_wp2
  go_ret2
  exact ⟨v, rfl, ⟨H3.out, h1.out.1⟩, h1.out.2⟩
/-- What Held's closure holds. -/
structure HdP (bb : Nat) (pre : List (Int × Bool)) (W : World) : Prop where
  c : W.cell? ⟨bb, 0, none⟩ = some (.int .i64 (pre.length : Int))
  f : W.frozen? ⟨bb, 0, none⟩ = false
  l : bb < W.heap.size
end Go.Proofs.YteekompojgbkhaaGreat
