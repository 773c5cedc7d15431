import Derived.Test.YteekompojgbkhaaGreatKHgF
namespace Go.Proofs.YteekompojgbkhaaGreat
set_option linter.unusedSimpArgs false
open Go.ChangeShapes Go.WideShapes Go.ChangeAt Go.RowKit Go.MuLone Go.RwLone
set_option linter.unusedVariables false
set_option maxRecDepth 100000
set_option maxHeartbeats 6400000
/-- T Inserts were handed in. -/
def SbX (z : ShL) (B n kq : Nat) (S : AS) (x : XS) (w0 : World) (T : Nat) (W : World) : Prop := ∃ pt F qv h G, SbI z B n kq T S x pt F qv h G w0 W
theorem SbX.still {z : ShL} {B n kq T : Nat} {S : AS} {x : XS} {w0 W W' : World} (a : SbX z B n kq S x w0 T W) (hB : B ≤ w0.heap.size) (k : Keeps (fun _ => False) W W') : SbX z B n kq S x w0 T W' := by
  obtain ⟨pt, F, qv, h, G, a⟩ := a
  exact ⟨pt, F, qv, h, G, a.still hB k⟩
theorem SbX.c {z : ShL} {B n kq T : Nat} {S : AS} {x : XS} {w0 W : World} (a : SbX z B n kq S x w0 T W) (j : Nat) : W.cell? ⟨z.bb, j, none⟩ = z.C[j]? := by
  obtain ⟨pt, F, qv, h, G, a⟩ := a
  exact cell?_heap a.b j
/-- An Insert is begun and handed in. -/
theorem SbX.sub {z : ShL} {B n kq T i : Nat} {S : AS} {x : XS} {w0 W : World} (a : SbX z B n kq S x w0 T W) (hB : B ≤ w0.heap.size) (hT : T < n) (hn : n ≤ 24) (hi : (T + 1) % kq = i) (hk : 1 ≤ kq) {W1 W2 : World} {mb g : Nat} (hmb : W.heap.size ≤ mb) (k1 : Keeps (fun _ => False) W W1) (hm : InsH W1 mb z.X.x (miH T)) (k2 : Keeps (fun _ => False) W1 W2) (hg : W.heap.size ≤ g) (c2 : W2.cell? ⟨g, 0, none⟩ = some (.pointer (some ⟨mb, 0, none⟩))) :
    Calls Tryz.prog 24 #[.pointer (some ⟨z.hb, 0, none⟩), .int .i64 (i : Int), .int .i64 ((T : Int) + 1), .slice (some ⟨g, 0, none⟩) 1 1] W2 fun e w' => e = .returned (.int .i64 0) ∧ SbX z B n kq S x w0 (T + 1) w' := by
  obtain ⟨pt, F, qv, h, G, a⟩ := a
  have a2 := (a.still hB k1).still hB k2
  have hik : i < kq := by rw [← hi]; exact Nat.mod_lt _ (by omega)
  obtain ⟨l, hq⟩ : ∃ l, h.q[i]? = some l := ⟨_, List.getElem?_eq_getElem (by rw [a.j.q.k]; exact hik)⟩
  have hl := a.q i l hq
  have e := sub_one a.j.q.k hq (by omega) (by omega : T ≤ 100)
  have m2 : Hm W2 F (fun m => if m = T then mb else pt m) z.hb z.qb qv (.slice none 0 0) (.slice none 0 0) h := a2.m.cong (fun i' l' hl' y hy => if_neg (by have := ((a.j.q.q i' l' hl').2 y hy).1; omega)) a.en
  have hs := hsubmit W2 F (fun m => if m = T then mb else pt m) z.hb z.qb qv (.slice none 0 0) (.slice none 0 0) h m2 (i : Int) ((T : Int) + 1) (some ⟨g, 0, none⟩) 1 [T] (fun k hk => by
    have hk0 : k = 0 := by simpa using hk
    subst hk0
    refine ⟨g, 0, rfl, fun e => by have := a.m.lt _ e; omega, ?_⟩
    show W2.cell? ⟨g, 0 + 0, none⟩ = some (.pointer (some ⟨if T = T then mb else pt T, 0, none⟩))
    rw [if_pos rfl]
    exact c2) (by simp)
  rw [e] at hs
  refine hs.mono ?_
  rintro e' w' ⟨rfl, F', qv', m3, f3, k3⟩
  refine ⟨rfl, _, F', qv', _, _, a.sub hB hT hmb (k1.trans k2) (hm.keeps k2 (fun e => e)) m3 f3 k3 hq hi rfl⟩
theorem dnE_take {evs : List (Int × Int × Int × Int)} {i : Nat} {y : Int × Int × Int × Int} (hi : i < evs.length) (hy : evs[i] = y) : dnE (evs.take (i + 1)) = dnE (evs.take i) ++ (if y.1 = 2 then [y.2.2.1] else []) := by
  rw [List.take_succ_eq_append_getElem hi, dnE_app, hy]
  congr 1
  unfold dnE
  by_cases e : y.1 = 2
  · rw [if_pos e, List.filter_cons_of_pos (by simp [e])]
    rfl
  · rw [if_neg e, List.filter_cons_of_neg (by simp [e])]
    rfl
theorem chainScheduled_walk (w : World) (sch : ByteArray) (a1 a2 : Int) (hs : sch.size ≤ 1048576) (h1 : i64ok a1) (h2 : i64ok a2) : Calls Tryz.prog 8 #[.string sch, .int .i64 a1, .int .i64 a2] w fun e w' => e = .returned (.bool true) ∧ Below w.heap.size w w' := by
  have n0 := Int.emod_nonneg a1 (show (24 : Int) ≠ 0 by decide)
  have n1 := Int.emod_lt_of_pos a1 (show (0 : Int) < 24 by decide)
  have k0 := Int.emod_nonneg a2 (show (4 : Int) ≠ 0 by decide)
  have k1 := Int.emod_lt_of_pos a2 (show (0 : Int) < 4 by decide)
  obtain ⟨Nm, hNm⟩ : ∃ x : Nat, a1 % 24 = (x : Int) := ⟨(a1 % 24).toNat, by omega⟩
  obtain ⟨km, hkm⟩ : ∃ x : Nat, a2 % 4 = (x : Int) := ⟨(a2 % 4).toNat, by omega⟩
  obtain ⟨n, hn⟩ : ∃ x, Nm + 1 = x := ⟨_, rfl⟩
  obtain ⟨kq, hkq⟩ : ∃ x, km + 1 = x := ⟨_, rfl⟩
  have hn2 : 1 ≤ n ∧ n ≤ 24 := by omega
  have hk2 : 1 ≤ kq ∧ kq ≤ 4 := by omega
  have HM1 : Hid (∀ W, Calls Tryz.prog 14 #[.int .i64 a1, .int .i64 24] W fun e w' => e = .returned (.int .i64 (Nm : Int)) ∧ w' = W) := fun W => by
    have := bk_mod a1 24 W h1.1 h1.2 (by omega) (by omega)
    rw [hNm] at this
    exact this
  have HM2 : Hid (∀ W, Calls Tryz.prog 14 #[.int .i64 a2, .int .i64 4] W fun e w' => e = .returned (.int .i64 (km : Int)) ∧ w' = W) := fun W => by
    have := bk_mod a2 4 W h2.1 h2.2 (by omega) (by omega)
    rw [hkm] at this
    exact this
  have w1 : IntKind.i64.wrap (1 + (Nm : Int)) = (n : Int) := by rw [IntKind.wrap_i64]; omega
  have w2 : IntKind.i64.wrap (1 + (km : Int)) = (kq : Int) := by rw [IntKind.wrap_i64]; omega
  have w3 : IntKind.i64.wrap ((n : Int) - 1) = (Nm : Int) := by rw [IntKind.wrap_i64]; omega
  have HBG : Hid (∀ _ : Unit, _) := fun _ => bk_begin0 w (Nm : Int) 0 none 0 0 (by omega) (by omega)
  have HN : Hid ((Nm : Int) % 24 + 1 = (n : Int)) := by show _ = _; omega
  have HS : Hid (sch.size ≤ 1048576) := hs
  clear n0 n1 k0 k1 hNm hkm hn hkq hs h1 h2
  go_enter Tryz.func8, Tryz.ntmps8
  go_wp2_with fail
  refine (HM1.out _).mono ?_
  rintro e w9 ⟨rfl, hw9⟩
  rw [hw9]
  clear hw9 w9
  go_wp2_with fail
  refine (HM2.out _).mono ?_
  rintro e w9 ⟨rfl, hw9⟩
  rw [hw9]
  clear hw9 w9
  go_wp2_with fail
  refine (HBG.out ()).mono ?_
  rintro e W1 ⟨bb, rfl, l, N, nb, ⟨s, b1, b2, b3, b4, b5, b6⟩, -, e1, e2⟩
  have eN : N = n := by have := HN.out; omega
  have enb : nb = 1 := by omega
  subst eN
  subst enb
  have HB : Hid (BkM W1 w.heap.size bb l s ∧ BkJ s Gb.new ∧ Below w.heap.size w W1 ∧ s.N = N ∧ s.nb = 1) := ⟨b1, b2, b3, b4, b5⟩
  have c2 : W1.cell? ⟨bb, 2, none⟩ = some (.int .i64 (N : Int)) := by rw [← b4]; exact (b1.c 2).trans rfl
  have HNW : Hid (∀ _ : Unit, _) := fun _ => hnew_any W1 kq hk2.1 (by omega)
  clear b1 b2 b3 b4 b5 b6 e1 e2 HM1 HM2 HBG w1 w2 w3
  go_wp2_with fail
  refine (HNW.out ()).mono ?_
  rintro e W2 ⟨rfl, hW2⟩
  have H0 : Hid (SbX ⟨l.L, l.Q, l.X, bb, W1.heap.size + 1, W1.heap.size, bkC l s⟩ w.heap.size N kq s.S s.x w 0 W2) := by
    have kk : Keeps (fun _ => False) W1 W2 := by rw [hW2]; exact ((Keeps.refl _ _).alloc _).alloc _
    refine ⟨fun _ => 0, _, _, _, _, SbI.new HB.out.1 HB.out.2.1 HB.out.2.2.1 HB.out.2.2.2.1 HB.out.2.2.2.2 kk (Hm.fresh (fun _ => 0) kq (by omega) (by rw [← hW2]; exact Keeps.refl _ _)) (fun y hy => ?_)⟩
    rcases hy with rfl | rfl
    · exact Nat.le_refl _
    · exact Nat.le_succ _
  clear hW2 HNW c2
  go_wp2_with fail
  refine (bk_num 0 _).mono ?_
  rintro e w9 ⟨rfl, hw9⟩
  rw [hw9]
  clear hw9 w9
  have HZ : Hid (l.X.x = l.X.x) := rfl
  obtain ⟨z, hz⟩ : ∃ z : ShL, z = ⟨l.L, l.Q, l.X, bb, W1.heap.size + 1, W1.heap.size, bkC l s⟩ := ⟨_, rfl⟩
  have zb : z.bb = bb := by rw [hz]
  have zh : W1.heap.size + 1 = z.hb := by rw [hz]
  have zx : l.X.x = z.X.x := by rw [hz]
  have HC : Hid (z.C[1]? = some (.pointer (some ⟨z.X.x, 0, none⟩)) ∧ z.C[2]? = some (.int .i64 (N : Int)) ∧ WdOk s.S s.x ∧ s.S.n ≤ 4096 ∧ (1 : Nat) = s.x.nb ∧ z.L = l.L) := by
    rw [hz]
    refine ⟨rfl, by rw [← HB.out.2.2.2.1]; rfl, HB.out.2.1.wd, HB.out.2.1.sn, ?_, rfl⟩
    have := HB.out.2.1.i.l.b
    have := HB.out.2.2.2.2
    omega
  rw [← hz] at H0
  rw [zh]
  rw [← zb]
  clear zh zb zx hz HB HZ
  go_wp2_with fail
  go_loopw [13] (fun sv wr => ∃ T : Nat, T ≤ N ∧ sv = .int .i64 ((T : Int) + 1) ∧ Hid (SbX z w.heap.size N kq s.S s.x w T wr)) (fun sv _ => N + 1 - (intOf sv).toNat)
  case atStart => exact ⟨0, by omega, rfl, H0⟩
  case round =>
    clear H0
    obtain ⟨T, hT, rfl, hI⟩ := hrel
    have t0 : (0 : Int) ≤ (T : Int) := Int.natCast_nonneg _
    by_cases hTn : T < N
    · have t1 : (T : Int) + 1 ≤ (N : Int) := by omega
      have q0 : ¬ (kq : Int) = 0 := by omega
      obtain ⟨i, hi⟩ : ∃ i, (T + 1) % kq = i := ⟨_, rfl⟩
      have rm : ((T : Int) + 1).tmod (kq : Int) = (i : Int) := by
        rw [Int.tmod_eq_emod_of_nonneg (by omega), ← hi]
        exact (Int.natCast_emod (T + 1) kq).symm
      have HI : Hid (∀ W, Keeps (fun _ => False) wr W → SbX z w.heap.size N kq s.S s.x w T W) := fun W k => hI.out.still (Nat.le_refl _) k
      obtain ⟨mb, hmb⟩ : ∃ mb, wr.heap.size = mb := ⟨_, rfl⟩
      obtain ⟨m1, hm1⟩ : ∃ m1, mb + 1 = m1 := ⟨_, rfl⟩
      have HIN : Hid (∀ _ : Unit, Calls Tryz.prog 25 #[.pointer (some ⟨z.X.x, 0, none⟩), .int .i64 0, .int .i64 ((T : Int) + 1)] wr.drew fun e w' => e = .returned (.pointer (some ⟨mb, 0, none⟩)) ∧ InsH w' mb z.X.x (miH T) ∧ Keeps (fun _ => False) wr.drew w' ∧ w'.heap.size = m1) := fun _ => by
        have := ins_new wr.drew z.X.x 0 ((T : Int) + 1)
        rw [← hm1, ← hmb]
        exact this
      have HMB : Hid (wr.drew.heap.size ≤ mb ∧ wr.drew.heap.size ≤ m1) := by
        show wr.heap.size ≤ mb ∧ wr.heap.size ≤ m1
        omega
      have sx : wr.drew.cell? ⟨z.bb, 1, none⟩ = some (.pointer (some ⟨z.X.x, 0, none⟩)) := (hI.out.c 1).trans HC.out.1
      have HX : Hid (SbX z w.heap.size N kq s.S s.x w T wr.drew) := HI.out _ (Keeps.refl _ _).drew
      clear hI
      go_wp2_with fail
      (refine wp_region_held_drew (S := (fun Z => Z.cell? ⟨z.bb, 1, none⟩ = some (.pointer (some ⟨z.X.x, 0, none⟩)))) (by kernel_rfl) sx (fun hHeld => ?_); simp only [List.size_toArray, List.length_cons, List.length_nil, Nat.reduceAdd, Array.replicate_succ, Array.replicate_zero, List.push_toArray, List.append_toArray, List.nil_append, List.cons_append])
      clear sx hmb hm1 HI
      generalize wr.drew = wd at *
      refine rgT 0 (h := ?_)
      refine rgT 1 (h := ?_)
      refine rgT 2 (h := ?_)
      refine rgT 3 (v := .int .i64 (i : Int)) (hy := by intro w hSw; go_simp; omega) (h := ?_)
      refine rgT 4 (h := ?_)
      refine rgT 5 (h := ?_)
      refine rgT 6 (h := ?_)
      refine rgT 7 (h := ?_)
      refine rgT 8 (h := ?_)
      refine rgT 9 (h := ?_)
      (refine rgS 10 (h := fun K hK => ?_); go_simp)
      refine (HIN.out ()).mono ?_
      rintro e W5 ⟨rfl, m5, k5, z5⟩
      have s5 : W5.cell? ⟨z.bb, 1, none⟩ = some (.pointer (some ⟨z.X.x, 0, none⟩)) := (HX.out.still (Nat.le_refl _) k5).c 1 |>.trans HC.out.1
      (refine hK.out _ _ s5 (fun hHeld => ?_); clear hK K; try simp only [Act.put, List.setIfInBounds_toArray, List.set_cons_zero, List.set_cons_succ])
      (refine rgS 11 (h := fun K hK => ?_); go_simp)
      have kA : ∀ o, Keeps (fun _ => False) W5 (W5.alloc o) := fun o => (Keeps.refl _ _).alloc _
      have s6 : ∀ o, (W5.alloc o).cell? ⟨z.bb, 1, none⟩ = some (.pointer (some ⟨z.X.x, 0, none⟩)) := fun o => (HX.out.still (Nat.le_refl _) (k5.trans (kA o))).c 1 |>.trans HC.out.1
      (refine hK.out _ _ (s6 _) (fun hHeld => ?_); clear hK K; try simp only [Act.put, List.setIfInBounds_toArray, List.set_cons_zero, List.set_cons_succ])
      have HSU : Hid (∀ _ : Unit, _) := fun _ => HX.out.sub (Nat.le_refl _) hTn hn2.2 hi hk2.1 HMB.out.1 k5 m5 (kA (.cells #[.pointer (some ⟨mb, 0, none⟩)] 42)) HMB.out.2 (by
        have hz6 := heap_alloc_last W5 (.cells #[.pointer (some ⟨mb, 0, none⟩)] 42) _ rfl
        rw [← z5]
        exact (cell?_heap hz6 0).trans rfl)
      clear s6 s5 kA
      (refine rgS 12 (h := fun K hK => ?_); go_simp)
      refine (HSU.out ()).mono ?_
      rintro e W7 ⟨rfl, h7⟩
      have H7 : Hid (SbX z w.heap.size N kq s.S s.x w (T + 1) W7) := h7
      have s7 := (h7.c 1).trans HC.out.1
      clear h7 HSU k5 m5 z5 HX HIN HMB
      (refine hK.out _ _ s7 (fun hHeld => ?_); clear hK K; try simp only [Act.put, List.setIfInBounds_toArray, List.set_cons_zero, List.set_cons_succ])
      (refine rgS 13 (h := fun K hK => ?_); go_simp)
      refine (bk_num 0 _).mono ?_
      rintro e w9 ⟨rfl, hw9⟩
      rw [hw9]
      clear hw9 w9
      (refine hK.out _ _ s7 (fun hHeld => ?_); clear hK K; try simp only [Act.put, List.setIfInBounds_toArray, List.set_cons_zero, List.set_cons_succ])
      refine rgT 14 (h := ?_)
      refine wpAnyH_done (by kernel_rfl) ?_ _
      clear hHeld s7
      go_wp2
      go_roundw
      case rel => exact ⟨T + 1, by omega, by go_num, H7⟩
      case measure => simp [intOf]; omega
    · have t1 : ¬ (T : Int) + 1 ≤ (N : Int) := by omega
      have eT : T = N := by omega
      have HP : Hid (PlX z w.heap.size N kq false 0 w wr) := by
        have := hI.out
        rw [eT] at this
        obtain ⟨pt, F, qv, h, G, a⟩ := this
        exact a.plx (Nat.le_refl _) HC.out.2.2.1 HC.out.2.2.2.1 hn2.2
      have b2 : wr.cell? ⟨z.bb, 2, none⟩ = some (.int .i64 (N : Int)) := (HP.out.c 2).trans HC.out.2.1
      obtain ⟨m, hm⟩ : ∃ m, mostN N = m := ⟨_, rfl⟩
      obtain ⟨bd, hbd⟩ : ∃ bd, m * N = bd := ⟨_, rfl⟩
      have m1 : m ≤ 5920 := by
        rw [← hm]
        exact Nat.mul_le_mul (show 3 * N + 2 ≤ 74 by omega) (show 3 * N + 8 ≤ 80 by omega)
      have hb2 : bd ≤ 1048576 := by
        have : bd ≤ 5920 * 24 := by rw [← hbd]; exact Nat.mul_le_mul m1 hn2.2
        omega
      have x1 : IntKind.i64.wrap ((m : Int) * (N : Int)) = (bd : Int) := by
        have : (m : Int) * (N : Int) = (bd : Int) := by rw [← hbd]; exact (Int.natCast_mul m N).symm
        rw [IntKind.wrap_i64, this]
        omega
      have HMO : Hid (∀ W : World, W.cell? ⟨z.bb, 2, none⟩ = some (.int .i64 (N : Int)) → _) := fun W h => bk_most W z.bb N m h hn2.2 hm
      have HBD : Hid ((3 * N + 2) * (3 * N + 8) * N ≤ bd) := by
        show _ ≤ _
        rw [← hbd, ← hm]
        exact Nat.le_refl _
      clear hI eT hm hbd m1 hT t0
      go_wp2_with fail
      refine (HMO.out _ b2).mono ?_
      rintro e w3 ⟨rfl, hw3⟩
      rw [hw3]
      clear hw3 w3 t1
      have HP2 : Hid (PlX z w.heap.size N kq false 0 w wr.drew) := HP.out.still (Keeps.refl _ _).drew
      clear HP b2
      generalize wr.drew = wd at *
      have HD : Hid (∀ _ : Unit, _) := fun _ => decode_any sch wd (by have := HS.out; omega)
      go_wp2_with fail
      refine (HD.out ()).mono ?_
      rintro e w3 ⟨v, rfl, hv, hbl⟩
      have HPL : Hid (∀ _ : Unit, _) := fun _ => HP2.out.play (below_keeps hbl) hn2.1 hn2.2 bd hb2 v (dL sch.data.toList) (fun Fb hF => PkR.of hv hF (by have := (dL_len _ sch.data.toList (Nat.le_refl _)).1; rw [len_list] at this; have := HS.out; omega) (dL_small _ _ (Nat.le_refl _)))
      clear hv hbl HD
      go_wp2_with fail
      refine (HPL.out ()).mono ?_
      rintro e w4 ⟨⟨x, y, rfl⟩, h4⟩
      have H4 : Hid (PlX z w.heap.size N kq false 0 w w4) := h4
      have b2 : w4.cell? ⟨z.bb, 2, none⟩ = some (.int .i64 (N : Int)) := (h4.c 2).trans HC.out.2.1
      clear h4 HPL HP2
      go_wp2_with fail
      refine (HMO.out _ b2).mono ?_
      rintro e w3 ⟨rfl, hw3⟩
      rw [hw3]
      clear hw3 w3 b2
      have HDR : Hid (∀ _ : Unit, _) := fun _ => (H4.out.still (W' := w4.drew) (Keeps.refl _ _).drew).drain hn2.1 hn2.2 bd HBD.out hb2
      generalize w4.drew = w4d at *
      go_wp2_with fail
      refine (HDR.out ()).mono ?_
      rintro e w5 ⟨⟨x, rfl⟩, h5⟩
      have H5 : Hid (PlF z w.heap.size N kq w w5) := h5
      clear h5 HDR H4 HMO HBD
      go_wp2_with fail
      refine (bk_num 0 _).mono ?_
      rintro e w9 ⟨rfl, hw9⟩
      rw [hw9]
      clear hw9 w9
      have HE : Hid (∀ _ : Unit, _) := fun _ => H5.out.events hn2.2
      go_wp2_with fail
      refine (HE.out ()).mono ?_
      rintro e w6 ⟨v, evs, rfl, o6, l6, z6, f1, f2, f3, h6⟩
      obtain ⟨ea, ec, hev⟩ := OwG.form o6
      obtain ⟨q, hq⟩ : ∃ q, evs.length = q := ⟨_, rfl⟩
      rw [hq] at hev
      subst hev
      have H6 : Hid (OwE w6 w5.heap.size (.slice ea q ec) evs ∧ PlE z w.heap.size (dnE evs).reverse w w6 ∧ (dnE evs).length = N ∧ (dnE evs).Nodup ∧ (∀ u, u ∈ dnE evs → 1 ≤ u ∧ u ≤ N) ∧ evs.length = q) := ⟨o6, h6, f1, f2, f3, hq⟩
      have hql : q ≤ 68719476000 := by omega
      clear o6 h6 f1 f2 f3 hq HE H5 z6 l6
      go_wp2_with fail
      go_loopw [16, 18] (fun lv iv wr => ∃ i : Nat, i ≤ q ∧ iv = .int .i64 (i : Int) ∧ Hid (OwI wr w6.heap.size lv (dnE (evs.take i)) ∧ Below w6.heap.size w6 wr)) (fun _ iv _ => q - (intOf iv).toNat)
      case atStart => exact ⟨0, by omega, rfl, OwG.nil _ _ _ _ _, Below.refl _ _⟩
      case round =>
        obtain ⟨i, hi, rfl, hI⟩ := hrel
        obtain ⟨ka, kc, hkv⟩ := OwG.form hI.out.1
        obtain ⟨kn, hkn⟩ : ∃ kn, (dnE (evs.take i)).length = kn := ⟨_, rfl⟩
        rw [hkn] at hkv
        subst hkv
        have i0 : (0 : Int) ≤ (i : Int) := Int.natCast_nonneg _
        by_cases hiq : i < q
        · have i1 : (i : Int) < (q : Int) := by omega
          have hie : i < evs.length := by rw [H6.out.2.2.2.2.2]; exact hiq
          obtain ⟨y, hy⟩ : ∃ y, evs[i] = y := ⟨_, rfl⟩
          have o6 : OwG evC 70 4 wr w5.heap.size (.slice ea q ec) evs := H6.out.1.later hI.out.2
          have o6i := o6.in
          rw [← H6.out.2.2.2.2.2] at o6i
          obtain ⟨eb, off, hea, heb, hcl⟩ := InG.cell (cs := evC) (n := 4) (fun _ => rfl) o6i i hie (by decide)
          rw [hy] at hcl
          have e0 : wr.cell? ⟨eb, off + i * 4, none⟩ = some (.int .i64 y.1) := hcl 0 (by decide)
          have e2 : wr.cell? ⟨eb, off + i * 4 + 2, none⟩ = some (.int .i64 y.2.2.1) := hcl 2 (by decide)
          have hd := dnE_take hie hy
          subst hea
          have HI : Hid (OwI wr w6.heap.size (.slice ka kn kc) (dnE (evs.take i)) ∧ Below w6.heap.size w6 wr ∧ (dnE (evs.take i)).length = kn) := ⟨hI.out.1, hI.out.2, hkn⟩
          obtain ⟨kd, who, tg, at_⟩ := y
          have e0 : wr.cell? ⟨eb, off + i * 4, none⟩ = some (.int .i64 kd) := e0
          have e2 : wr.cell? ⟨eb, off + i * 4 + 2, none⟩ = some (.int .i64 tg) := e2
          have HDN : Hid (dnE (evs.take (i + 1)) = dnE (evs.take i) ++ (if kd = 2 then [tg] else [])) := hd
          have hkn1 : kn ≤ 68719476000 := by
            have : (dnE (evs.take i)).length ≤ (evs.take i).length := by
              unfold dnE
              rw [List.length_map]
              exact List.length_filter_le _ _
            rw [hkn, List.length_take] at this
            omega
          clear hI hy o6 o6i hcl hd hkn heb hie
          by_cases hk2 : kd = 2
          · subst hk2
            have HO : Hid (OwI wr 0 (.slice ka kn kc) (dnE (evs.take i))) := OwG.down HI.out.1 (Nat.zero_le _)
            have HDN2 : Hid (dnE (evs.take (i + 1)) = dnE (evs.take i) ++ [tg]) := HDN.out.trans (by rw [if_pos rfl])
            clear HDN
            go_wp2_with (at_builtin; refine hideG ?_)
            change wpList _ _ _ _ _ _
            refine app_stay (cs := inZ) (wr := wr) (by rfl) _ _ 31 3 (by rfl) Tryz.underlying31 infoZ rfl (by decide) (fun _ => rfl) _ (dnE (evs.take i)) tg HO.out (by rfl) wr.heap.size rfl (by rfl) (inZ_one _) _ rfl (by rw [HI.out.2.2]; unfold maxLen; omega) (by rw [HI.out.2.2]; omega) ?_
            intro b cap w7 ho7 kk7 hb7
            rw [HI.out.2.2] at ho7 ⊢
            have hlow := World.ownsRow.lt HI.out.1
            have hb6 : w6.heap.size ≤ b := kk7.elim (fun c => (hlow b c.1).1) (fun c => by have := HI.out.2.1.size; omega)
            have kB : Below w6.heap.size wr w7 := kk7.elim (fun c => c.2.below HI.out.2.1.size (fun x hx e => by have := (hlow x e).1; omega)) (fun c => c.2.below HI.out.2.1.size (fun _ _ e => e))
            have H9 : Hid (OwI w7 w6.heap.size (.slice (some ⟨b, 0, none⟩) (kn + 1) cap) (dnE (evs.take (i + 1))) ∧ Below w6.heap.size w6 w7) := ⟨by rw [HDN2.out]; exact owG_hi ho7 _ (fun g hg => by have e : b = g := Option.some.inj hg; omega), HI.out.2.1.trans kB⟩
            clear hlow hb6 kB ho7 kk7 hb7 HDN2 HO HI e0 e2
            go_wp2
            go_roundw
            case rel => exact ⟨i + 1, by omega, by go_num, H9⟩
            case measure => simp [intOf]; omega
          · have e1 : (kd == 2) = false := beq_eq_false_iff_ne.2 hk2
            have H9 : Hid (OwI wr w6.heap.size (.slice ka kn kc) (dnE (evs.take (i + 1))) ∧ Below w6.heap.size w6 wr) := ⟨by rw [HDN.out, if_neg hk2, List.append_nil]; exact HI.out.1, HI.out.2.1⟩
            clear HDN HI hk2 e2
            go_wp2
            go_roundw
            case rel => exact ⟨i + 1, by omega, by go_num, H9⟩
            case measure => simp [intOf]; omega
        · have i1 : ¬ (i : Int) < (q : Int) := by omega
          have eiq : i = q := by omega
          have HI : Hid (OwI wr w6.heap.size (.slice ka kn kc) (dnE evs) ∧ Below w6.heap.size w6 wr ∧ kn = N) := by
            have h := hI.out.1
            have e : dnE (evs.take i) = dnE evs := by rw [List.take_of_length_le (by rw [H6.out.2.2.2.2.2]; omega)]
            rw [e] at h hkn
            exact ⟨h, hI.out.2, by rw [← hkn]; exact H6.out.2.2.1⟩
          have ekn := HI.out.2.2
          subst ekn
          have HPE : Hid (PlE z w.heap.size (dnE evs).reverse w wr) := H6.out.2.1.below HI.out.2.1
          have b1 : wr.cell? ⟨z.bb, 1, none⟩ = some (.pointer (some ⟨z.X.x, 0, none⟩)) := (HPE.out.c 1).trans HC.out.1
          have HLI : Hid (∀ _ : Unit, _) := fun _ => HPE.out.list
          clear hI hkn eiq
          go_wp2_with fail
          refine (HLI.out ()).mono ?_
          rintro e w8 ⟨v8, rfl, o8, l8, k8⟩
          obtain ⟨la, lc, hl8⟩ := OwG.form o8
          rw [List.length_reverse, H6.out.2.2.1] at hl8
          subst hl8
          have lR : (dnE evs).reverse.length = kn := by rw [List.length_reverse]; exact H6.out.2.2.1
          have lE : (dnE evs).length = kn := H6.out.2.2.1
          obtain ⟨g1, hg1⟩ : ∃ g, la = some ⟨g, 0, none⟩ := by
            obtain ⟨g, cap', e1, _⟩ := owG_some o8 (by intro e; rw [e] at lR; simp at lR; omega)
            injection e1 with e1
            exact ⟨g, e1⟩
          have oE : OwI w8 0 (.slice ka kn kc) (dnE evs) := (owK HI.out.1 k8 (fun g hg e => by have := World.ownsRow.lt HI.out.1 g hg; have := H6.out.2.1.lt g e; omega)).down (Nat.zero_le _)
          obtain ⟨g2, hg2⟩ : ∃ g, ka = some ⟨g, 0, none⟩ := by
            obtain ⟨g, cap', e1, _⟩ := owG_some oE (by intro e; rw [e] at lE; simp at lE; omega)
            injection e1 with e1
            exact ⟨g, e1⟩
          subst hg1
          subst hg2
          have HQ : Hid (OwI w8 0 (.slice (some ⟨g1, 0, none⟩) kn lc) (dnE evs).reverse ∧ OwI w8 0 (.slice (some ⟨g2, 0, none⟩) kn kc) (dnE evs) ∧ Below w.heap.size w w8) := ⟨o8.down (Nat.zero_le _), oE, l8⟩
          have HE : Hid ((dnE evs).reverse.length = kn ∧ (dnE evs).reverse.Nodup ∧ (∀ u, u ∈ (dnE evs).reverse → 1 ≤ u ∧ u ≤ (kn : Int)) ∧ (dnE evs).length = kn) := ⟨lR, List.pairwise_reverse.2 (H6.out.2.2.2.1.imp (fun h e => h e.symm)), fun u hu => H6.out.2.2.2.2.1 u (List.mem_reverse.1 hu), lE⟩
          clear o8 l8 k8 lR lE oE HI HPE HLI b1 H6 HC HN HS hTn x1 hb2 hql hiq i1
          go_wp2_with fail
          refine (bk_num 0 _).mono ?_
          rintro e w9 ⟨rfl, hw9⟩
          rw [hw9]
          clear hw9 w9
          go_wp2_with fail
          go_loopw [21] (fun jv wq => ∃ j : Nat, j ≤ kn ∧ jv = .int .i64 (j : Int) ∧ Hid (OwI wq 0 (.slice (some ⟨g1, 0, none⟩) kn lc) (dnE evs).reverse ∧ OwI wq 0 (.slice (some ⟨g2, 0, none⟩) kn kc) (dnE evs) ∧ Below w.heap.size w wq)) (fun jv _ => kn - (intOf jv).toNat)
          case atStart => exact ⟨0, by omega, rfl, HQ⟩
          case round =>
            clear HQ
            obtain ⟨j, hj, rfl, hJ⟩ := hrel
            have j0 : (0 : Int) ≤ (j : Int) := Int.natCast_nonneg _
            by_cases hjn : j < kn
            · have j1 : (j : Int) < (kn : Int) := by omega
              obtain ⟨p, hp⟩ : ∃ p, kn - 1 - j = p := ⟨_, rfl⟩
              have p1 : p < kn := by omega
              have jR : j < (dnE evs).reverse.length := by rw [HE.out.1]; exact hjn
              obtain ⟨u, hu⟩ : ∃ u, (dnE evs).reverse[j] = u := ⟨_, rfl⟩
              have hu2 : (dnE evs)[p]'(by rw [HE.out.2.2.2]; exact p1) = u := by
                rw [← hu, List.getElem_reverse]
                congr 1
                rw [HE.out.2.2.2]
                exact hp.symm
              have c1 : wr.cell? ⟨g1, j, none⟩ = some (.int .i64 u) := by
                have := ow_at (f := fun x => .int .i64 x) (cs := inZ) (fun xs => flat_inZ xs) (by have h := hJ.out.1; rw [← HE.out.1] at h; exact h) j jR
                rw [this, hu]
              have c2 : wr.cell? ⟨g2, p, none⟩ = some (.int .i64 u) := by
                have := ow_at (f := fun x => .int .i64 x) (cs := inZ) (fun xs => flat_inZ xs) (by have h := hJ.out.2.1; rw [← HE.out.2.2.2] at h; exact h) p (by rw [HE.out.2.2.2]; exact p1)
                rw [this, hu2]
              have hlc : kn ≤ lc := by have := (owG_cap hJ.out.1).2.1; rw [HE.out.1] at this; exact this
              have hmem : u ∈ (dnE evs).reverse := by rw [← hu]; exact List.getElem_mem jR
              obtain ⟨u1, u2⟩ := HE.out.2.2.1 u hmem
              have hno : ¬ u ∈ (dnE evs).reverse.take j := fun hm => by
                obtain ⟨t, ht, e⟩ := List.getElem_of_mem hm
                rw [List.length_take] at ht
                rw [List.getElem_take] at e
                have := (List.pairwise_iff_getElem.1 HE.out.2.1) t j (by omega) jR (by omega)
                exact this (e.trans hu.symm)
              have HHA : Hid (∀ _ : Unit, _) := fun _ => bk_has wr.drew (.slice (some ⟨g1, 0, none⟩) j lc) 0 ((dnE evs).reverse.take j) u false (owI_take (owK hJ.out.1 (Keeps.refl (fun _ => False) _).drew (fun _ _ e => e)) j (by omega)) (by rw [List.length_take]; omega) (decide_eq_false hno).symm
              have x1 : IntKind.i64.wrap ((kn : Int) - 1) = (kn : Int) - 1 := by rw [IntKind.wrap_i64]; omega
              have x2 : IntKind.i64.wrap ((kn : Int) - 1 - (j : Int)) = (p : Int) := by rw [IntKind.wrap_i64]; omega
              have H9 : Hid (OwI wr.drew 0 (.slice (some ⟨g1, 0, none⟩) kn lc) (dnE evs).reverse ∧ OwI wr.drew 0 (.slice (some ⟨g2, 0, none⟩) kn kc) (dnE evs) ∧ Below w.heap.size w wr.drew) := ⟨owK hJ.out.1 (Keeps.refl (fun _ => False) _).drew (fun _ _ e => e), owK hJ.out.2.1 (Keeps.refl (fun _ => False) _).drew (fun _ _ e => e), hJ.out.2.2.drew⟩
              have sx : wr.drew.cell? ⟨g1, j, none⟩ = some (.int .i64 u) ∧ wr.drew.cell? ⟨g2, p, none⟩ = some (.int .i64 u) := ⟨c1, c2⟩
              clear c1 c2 hmem hno hu hu2 jR hJ hp
              go_wp2_with fail
              (refine wp_region_held_drew (S := (fun Z => Z.cell? ⟨g1, j, none⟩ = some (.int .i64 u) ∧ Z.cell? ⟨g2, p, none⟩ = some (.int .i64 u))) (by kernel_rfl) sx (fun hHeld => ?_); simp only [List.size_toArray, List.length_cons, List.length_nil, Nat.reduceAdd, Array.replicate_succ, Array.replicate_zero, List.push_toArray, List.append_toArray, List.nil_append, List.cons_append])
              clear sx
              generalize wr.drew = wd2 at *
              refine rgT 0 (h := ?_)
              refine rgT 1 (h := ?_)
              refine rgT 2 (h := ?_)
              refine rgT 3 (h := ?_)
              refine rgT 4 (h := ?_)
              refine rgT 5 (h := ?_)
              refine rgT 6 (h := ?_)
              refine rgT 7 (h := ?_)
              refine rgT 8 (h := ?_)
              refine rgT 9 (h := ?_)
              refine rgT 10 (h := ?_)
              refine rgT 11 (h := ?_)
              refine rgT 12 (h := ?_)
              refine rgT 13 (h := ?_)
              refine rgT 14 (h := ?_)
              refine rgT 15 (v := .slice (some ⟨g1, 0, none⟩) j lc) (hy := by intro w hSw; go_simp; omega) (h := ?_)
              refine rgT 16 (h := ?_)
              refine rgT 17 (h := ?_)
              refine rgT 18 (h := ?_)
              refine rgT 19 (h := ?_)
              (refine rgS 20 (h := fun K hK => ?_); go_simp)
              refine (HHA.out ()).mono ?_
              rintro e wa ⟨rfl, ha⟩
              rw [ha]
              clear ha wa HHA
              (refine hK.out _ _ hHeld (fun hHeld => ?_); clear hK K; try simp only [Act.put, List.setIfInBounds_toArray, List.set_cons_zero, List.set_cons_succ])
              refine rgT 21 (h := ?_)
              refine rgT 22 (h := ?_)
              refine rgT 23 (h := ?_)
              refine rgT 24 (h := ?_)
              refine rgT 25 (h := ?_)
              refine rgT 26 (h := ?_)
              refine rgT 27 (v := .bool false) (hy := by intro w hSw; go_simp) (h := ?_)
              refine rgT 28 (h := ?_)
              refine rgT 29 (h := ?_)
              refine rgT 30 (h := ?_)
              refine rgT 31 (h := ?_)
              refine rgT 32 (h := ?_)
              refine rgT 33 (h := ?_)
              refine rgT 34 (h := ?_)
              refine rgT 35 (v := .bool false) (hy := by intro w hSw; go_simp) (h := ?_)
              refine rgT 36 (h := ?_)
              refine wpAnyH_done (by kernel_rfl) ?_ _
              clear hHeld
              go_wp2
              go_roundw
              case rel => exact ⟨j + 1, by omega, by go_num, H9⟩
              case measure => simp [intOf]; omega
            · have j1 : ¬ (j : Int) < (kn : Int) := by omega
              have HF : Hid (Below w.heap.size w wr) := hJ.out.2.2
              clear hJ HE
              go_wp2
              go_ret
              exact ⟨rfl, HF.out⟩
end Go.Proofs.YteekompojgbkhaaGreat
