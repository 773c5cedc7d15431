import Derived.Test.YtoomekcglniohaaDoorSpC
namespace Go.Proofs.YtoomekcglniohaaDoor
open Go.ChangeShapes Go.WideShapes Go.ChangeAt Go.RowKit
set_option linter.unusedVariables false
set_option linter.unusedSimpArgs false
set_option maxRecDepth 100000
/-- A value whose number is one of 64 bits. -/
def VOK (v : VL) : Prop := v.2.2.size ≤ 1048576 ∧ -9223372036854775808 ≤ v.2.1 ∧ v.2.1 ≤ 9223372036854775807
theorem valueT (v : VL) (hv : VOK v) (w : World) (hg : GW w) : Calls Tryd.prog 23 #[.agg #[.int .i64 v.1, .int .i64 v.2.1, .string v.2.2]] w fun e w' => e = .returned (.string (tx (valL v))) ∧ Below w.heap.size w w' := by
  obtain ⟨k, i, s⟩ := v
  obtain ⟨hs, h0, h1⟩ := hv
  dsimp only at hs h0 h1 ⊢
  have HA : Hid (Below w.heap.size w (w.alloc (.cells #[.int .i64 k, .int .i64 i, .string s] 65))) := (Below.refl _ _).alloc (Nat.le_refl _) _
  have HG : Hid (GW (w.alloc (.cells #[.int .i64 k, .int .i64 i, .string s] 65))) := hg.next HA.out
  unfold valL
  dsimp only
  by_cases h3 : k = 3
  · subst h3
    have HR : Hid (∀ _ : Unit, _) := fun _ => quotedT s _ hs HG.out
    rw [if_pos rfl]
    generalize tx (quotL s) = X at *
    go_enter Tryd.func23, Tryd.ntmps23
    go_wp2_with fail
    refine (HR.out ()).mono ?_
    rintro e w1 ⟨rfl, hb⟩
    have HB : Hid (Below w.heap.size w w1) := HA.out.trans (hb.mono HA.out.size)
    clear hb
    go_wp2
    go_ret
    exact ⟨rfl, HB.out⟩
  · have b3 : (k == 3) = false := by simp [h3]
    rw [if_neg h3]
    clear h3
    by_cases h2 : k = 2
    · subst h2
      have HR : Hid (∀ _ : Unit, _) := fun _ => fmtIntT i h0 h1 _ HG.out
      rw [if_pos rfl]
      generalize tx (Lib.itoa i) = X at *
      go_enter Tryd.func23, Tryd.ntmps23
      go_wp2_with fail
      refine (HR.out ()).mono ?_
      rintro e w1 ⟨rfl, hb⟩
      have HB : Hid (Below w.heap.size w w1) := HA.out.trans (hb.mono HA.out.size)
      clear hb
      go_wp2
      go_ret
      exact ⟨rfl, HB.out⟩
    · have b2 : (k == 2) = false := by simp [h2]
      rw [if_neg h2]
      clear h2
      by_cases hk : k = 1
      · subst hk
        rw [if_pos rfl]
        by_cases hi : i = 1
        · subst hi
          rw [if_pos rfl]
          go_enter Tryd.func23, Tryd.ntmps23
          go_wp2
          go_ret
          exact ⟨rfl, HA.out⟩
        · have bi : (i == 1) = false := by simp [hi]
          rw [if_neg hi]
          clear hi
          go_enter Tryd.func23, Tryd.ntmps23
          go_wp2
          go_ret
          exact ⟨rfl, HA.out⟩
      · have b1 : (k == 1) = false := by simp [hk]
        rw [if_neg hk]
        clear hk
        go_enter Tryd.func23, Tryd.ntmps23
        go_wp2
        go_ret
        exact ⟨rfl, HA.out⟩
/-- The value of a statement's end. -/
def resV (c : Int) (na : Option Addr) (nl nc : Nat) (ra : Option Addr) (rl rc : Nat) (n s f : Int) : Value := .agg #[.int .i64 c, .slice na nl nc, .slice ra rl rc, .int .i64 n, .int .u64 s, .int .i64 f]
theorem e_app (x : ByteArray) : (⟨#[]⟩ : ByteArray) ++ x = x := ByteArray.empty_append
theorem app_e (x : ByteArray) : x ++ (⟨#[]⟩ : ByteArray) = x := ByteArray.append_empty
theorem sz7 (a b : ByteArray) : (a ++ b).size = a.size + b.size := ByteArray.size_append
set_option maxHeartbeats 4000000 in
theorem endT (c : Int) (na : Option Addr) (nl nc : Nat) (ra : Option Addr) (rl rc : Nat) (n s f : Int) (h0 : -9223372036854775808 ≤ n) (h1 : n ≤ 9223372036854775807) (s0 : 0 ≤ s) (s1 : s ≤ 18446744073709551615) (w : World) (hg : GW w) : Calls Tryd.prog 19 #[resV c na nl nc ra rl rc n s f] w fun e w' => e = .returned (.string (tx (endL n s f))) ∧ Below w.heap.size w w' := by
  obtain ⟨u, rfl⟩ := Int.eq_ofNat_of_zero_le s0
  have HA : Hid (Below w.heap.size w (w.alloc (.cells #[.int .i64 c, .slice na nl nc, .slice ra rl rc, .int .i64 n, .int .u64 (u : Int), .int .i64 f] 29))) := (Below.refl _ _).alloc (Nat.le_refl _) _
  have HG : Hid (GW (w.alloc (.cells #[.int .i64 c, .slice na nl nc, .slice ra rl rc, .int .i64 n, .int .u64 (u : Int), .int .i64 f] 29))) := hg.next HA.out
  have HH : Hid ((w.alloc (.cells #[.int .i64 c, .slice na nl nc, .slice ra rl rc, .int .i64 n, .int .u64 (u : Int), .int .i64 f] 29)).heap[w.heap.size]? = some (.cells #[.int .i64 c, .slice na nl nc, .slice ra rl rc, .int .i64 n, .int .u64 (u : Int), .int .i64 f] 29)) := heap_new _ _
  have HI : Hid (∀ W, GW W → _) := fun W (h : GW W) => itoaT n h0 h1 W h
  have HU : Hid (∀ W, GW W → _) := fun W (h : GW W) => fmtUintT u (by omega) W h
  have hz1 : (tx (Lib.itoa n)).size ≤ 22 := by rw [tx_size]; exact itoa_len n h0 (by omega)
  have hz2 : (tx (Lib.itoa (u : Int))).size ≤ 22 := by rw [tx_size]; exact itoa_len u (by omega) (by omega)
  have HE : Hid (tx (endL n (u : Int) f) = tx (cntL n) ++ tx (stpL (u : Int)) ++ tx (finL f)) := by rw [tx_app, tx_app]; rfl
  have HC : Hid (tx (cntL n) = if n = 0 then ⟨#[]⟩ else ⟨#[32, 99, 111, 117, 110, 116, 32]⟩ ++ tx (Lib.itoa n)) := by
    unfold cntL
    split
    · rfl
    · show _ = tx [32, 99, 111, 117, 110, 116, 32] ++ _; rw [tx_app]
  have HS : Hid (tx (stpL (u : Int)) = if (u : Int) = 0 then ⟨#[]⟩ else ⟨#[32, 115, 116, 97, 109, 112, 32]⟩ ++ tx (Lib.itoa (u : Int))) := by
    unfold stpL
    split
    · rfl
    · show _ = tx [32, 115, 116, 97, 109, 112, 32] ++ _; rw [tx_app]
  have HF : Hid (tx (finL f) = if f = 1 then ⟨#[32, 99, 111, 109, 109, 105, 116]⟩ else if f = 2 then ⟨#[32, 97, 98, 111, 114, 116]⟩ else ⟨#[]⟩) := by
    unfold finL
    split
    · rfl
    · split <;> rfl
  unfold resV
  rw [HE.out, HC.out, HS.out, HF.out]
  clear HE HC HS HF
  generalize tx (Lib.itoa n) = X at *
  generalize tx (Lib.itoa (u : Int)) = Y at *
  have l1 : ByteArray.size ⟨#[32, 99, 111, 117, 110, 116, 32]⟩ = 7 := rfl
  have l2 : ByteArray.size ⟨#[32, 115, 116, 97, 109, 112, 32]⟩ = 7 := rfl
  have l3 : ByteArray.size ⟨#[32, 99, 111, 109, 109, 105, 116]⟩ = 7 := rfl
  have l4 : ByteArray.size ⟨#[32, 97, 98, 111, 114, 116]⟩ = 6 := rfl
  have l0 : ByteArray.size ⟨#[]⟩ = 0 := rfl
  have ha1 := sadd ⟨#[32, 99, 111, 117, 110, 116, 32]⟩ X (by rw [l1]; omega)
  have ha2 := sadd ⟨#[]⟩ (⟨#[32, 99, 111, 117, 110, 116, 32]⟩ ++ X) (by rw [sz7, l0, l1]; omega)
  have ha3 := sadd ⟨#[32, 115, 116, 97, 109, 112, 32]⟩ Y (by rw [l2]; omega)
  by_cases hn : n = 0
  · subst hn
    by_cases hu : (u : Int) = 0
    · have HUZ : Hid ((u : Int) = 0) := hu
      have hub : ((u : Int) != 0) = false := by simp [hu]
      clear hu
      by_cases hf : f = 1
      · subst hf
        have ha5 := sadd ⟨#[]⟩ ⟨#[32, 99, 111, 109, 109, 105, 116]⟩ (by simp only [sz7, l0, l1, l2, l3, l4]; omega)
        rw [if_pos rfl, if_pos HUZ.out, if_pos rfl]
        go_enter Tryd.func19, Tryd.ntmps19
        go_wp2
        go_ret
        exact ⟨by first | rfl | (simp only [e_app, app_e]; rfl) | simp only [e_app, app_e], HA.out⟩
      · have hf1 : (f == 1) = false := by simp [hf]
        rw [if_pos rfl, if_pos HUZ.out, if_neg hf]
        clear hf
        by_cases hg2 : f = 2
        · subst hg2
          have ha5 := sadd ⟨#[]⟩ ⟨#[32, 97, 98, 111, 114, 116]⟩ (by simp only [sz7, l0, l1, l2, l3, l4]; omega)
          rw [if_pos rfl]
          go_enter Tryd.func19, Tryd.ntmps19
          go_wp2
          go_ret
          exact ⟨by first | rfl | (simp only [e_app, app_e]; rfl) | simp only [e_app, app_e], HA.out⟩
        · have hf2 : (f == 2) = false := by simp [hg2]
          rw [if_neg hg2]
          clear hg2
          go_enter Tryd.func19, Tryd.ntmps19
          go_wp2
          go_ret
          exact ⟨by first | rfl | (simp only [e_app, app_e]; rfl) | simp only [e_app, app_e], HA.out⟩
    · have HUZ : Hid ((u : Int) ≠ 0) := hu
      have hub : ((u : Int) != 0) = true := by simp; omega
      clear hu
      have ha4 := sadd ⟨#[]⟩ (⟨#[32, 115, 116, 97, 109, 112, 32]⟩ ++ Y) (by simp only [sz7, l0, l1, l2]; omega)
      by_cases hf : f = 1
      · subst hf
        have ha5 := sadd (⟨#[]⟩ ++ (⟨#[32, 115, 116, 97, 109, 112, 32]⟩ ++ Y)) ⟨#[32, 99, 111, 109, 109, 105, 116]⟩ (by simp only [sz7, l0, l1, l2, l3, l4]; omega)
        rw [if_pos rfl, if_neg HUZ.out, if_pos rfl]
        go_enter Tryd.func19, Tryd.ntmps19
        go_wp2_with fail
        refine (HU.out _ HG.out).mono ?_
        rintro e w2 ⟨rfl, hb2⟩
        have HB2 : Hid (Below w.heap.size w w2) := HA.out.trans (hb2.mono HA.out.size)
        have hh2 : w2.heap[w.heap.size]? = _ := (hb2.block _ (Array.getElem?_eq_some_iff.1 HH.out).1).trans HH.out
        have c5b : w2.cell? ⟨w.heap.size, 5, none⟩ = some (.int .i64 1) := by unfold World.cell?; rw [hh2]; rfl
        clear hb2 hh2
        go_wp2
        go_ret
        exact ⟨by first | rfl | (simp only [e_app, app_e]; rfl) | simp only [e_app, app_e], HB2.out⟩
      · have hf1 : (f == 1) = false := by simp [hf]
        rw [if_pos rfl, if_neg HUZ.out, if_neg hf]
        clear hf
        by_cases hg2 : f = 2
        · subst hg2
          have ha5 := sadd (⟨#[]⟩ ++ (⟨#[32, 115, 116, 97, 109, 112, 32]⟩ ++ Y)) ⟨#[32, 97, 98, 111, 114, 116]⟩ (by simp only [sz7, l0, l1, l2, l3, l4]; omega)
          rw [if_pos rfl]
          go_enter Tryd.func19, Tryd.ntmps19
          go_wp2_with fail
          refine (HU.out _ HG.out).mono ?_
          rintro e w2 ⟨rfl, hb2⟩
          have HB2 : Hid (Below w.heap.size w w2) := HA.out.trans (hb2.mono HA.out.size)
          have hh2 : w2.heap[w.heap.size]? = _ := (hb2.block _ (Array.getElem?_eq_some_iff.1 HH.out).1).trans HH.out
          have c5b : w2.cell? ⟨w.heap.size, 5, none⟩ = some (.int .i64 2) := by unfold World.cell?; rw [hh2]; rfl
          clear hb2 hh2
          go_wp2
          go_ret
          exact ⟨by first | rfl | (simp only [e_app, app_e]; rfl) | simp only [e_app, app_e], HB2.out⟩
        · have hf2 : (f == 2) = false := by simp [hg2]
          rw [if_neg hg2]
          clear hg2
          go_enter Tryd.func19, Tryd.ntmps19
          go_wp2_with fail
          refine (HU.out _ HG.out).mono ?_
          rintro e w2 ⟨rfl, hb2⟩
          have HB2 : Hid (Below w.heap.size w w2) := HA.out.trans (hb2.mono HA.out.size)
          have hh2 : w2.heap[w.heap.size]? = _ := (hb2.block _ (Array.getElem?_eq_some_iff.1 HH.out).1).trans HH.out
          have c5b : w2.cell? ⟨w.heap.size, 5, none⟩ = some (.int .i64 f) := by unfold World.cell?; rw [hh2]; rfl
          clear hb2 hh2
          go_wp2
          go_ret
          exact ⟨by first | rfl | (simp only [e_app, app_e]; rfl) | simp only [e_app, app_e], HB2.out⟩
  · have HN : Hid (n ≠ 0) := hn
    have hnb : (n != 0) = true := by simp [hn]
    clear hn
    by_cases hu : (u : Int) = 0
    · have HUZ : Hid ((u : Int) = 0) := hu
      have hub : ((u : Int) != 0) = false := by simp [hu]
      clear hu
      by_cases hf : f = 1
      · subst hf
        have ha5 := sadd (⟨#[]⟩ ++ (⟨#[32, 99, 111, 117, 110, 116, 32]⟩ ++ X)) ⟨#[32, 99, 111, 109, 109, 105, 116]⟩ (by simp only [sz7, l0, l1, l2, l3, l4]; omega)
        rw [if_neg HN.out, if_pos HUZ.out, if_pos rfl]
        go_enter Tryd.func19, Tryd.ntmps19
        go_wp2_with fail
        refine (HI.out _ HG.out).mono ?_
        rintro e w1 ⟨rfl, hb1⟩
        have HB1 : Hid (Below w.heap.size w w1) := HA.out.trans (hb1.mono HA.out.size)
        have HG1 : Hid (GW w1) := HG.out.next hb1
        have hh1 : w1.heap[w.heap.size]? = _ := (hb1.block _ (by rw [szAl]; omega)).trans HH.out
        have c4 : w1.cell? ⟨w.heap.size, 4, none⟩ = some (.int .u64 (u : Int)) := by unfold World.cell?; rw [hh1]; rfl
        have c5 : w1.cell? ⟨w.heap.size, 5, none⟩ = some (.int .i64 1) := by unfold World.cell?; rw [hh1]; rfl
        have HH1 : Hid _ := hh1
        clear hb1 hh1
        go_wp2
        go_ret
        exact ⟨by first | rfl | (simp only [e_app, app_e]; rfl) | simp only [e_app, app_e], HB1.out⟩
      · have hf1 : (f == 1) = false := by simp [hf]
        rw [if_neg HN.out, if_pos HUZ.out, if_neg hf]
        clear hf
        by_cases hg2 : f = 2
        · subst hg2
          have ha5 := sadd (⟨#[]⟩ ++ (⟨#[32, 99, 111, 117, 110, 116, 32]⟩ ++ X)) ⟨#[32, 97, 98, 111, 114, 116]⟩ (by simp only [sz7, l0, l1, l2, l3, l4]; omega)
          rw [if_pos rfl]
          go_enter Tryd.func19, Tryd.ntmps19
          go_wp2_with fail
          refine (HI.out _ HG.out).mono ?_
          rintro e w1 ⟨rfl, hb1⟩
          have HB1 : Hid (Below w.heap.size w w1) := HA.out.trans (hb1.mono HA.out.size)
          have HG1 : Hid (GW w1) := HG.out.next hb1
          have hh1 : w1.heap[w.heap.size]? = _ := (hb1.block _ (by rw [szAl]; omega)).trans HH.out
          have c4 : w1.cell? ⟨w.heap.size, 4, none⟩ = some (.int .u64 (u : Int)) := by unfold World.cell?; rw [hh1]; rfl
          have c5 : w1.cell? ⟨w.heap.size, 5, none⟩ = some (.int .i64 2) := by unfold World.cell?; rw [hh1]; rfl
          have HH1 : Hid _ := hh1
          clear hb1 hh1
          go_wp2
          go_ret
          exact ⟨by first | rfl | (simp only [e_app, app_e]; rfl) | simp only [e_app, app_e], HB1.out⟩
        · have hf2 : (f == 2) = false := by simp [hg2]
          rw [if_neg hg2]
          clear hg2
          go_enter Tryd.func19, Tryd.ntmps19
          go_wp2_with fail
          refine (HI.out _ HG.out).mono ?_
          rintro e w1 ⟨rfl, hb1⟩
          have HB1 : Hid (Below w.heap.size w w1) := HA.out.trans (hb1.mono HA.out.size)
          have HG1 : Hid (GW w1) := HG.out.next hb1
          have hh1 : w1.heap[w.heap.size]? = _ := (hb1.block _ (by rw [szAl]; omega)).trans HH.out
          have c4 : w1.cell? ⟨w.heap.size, 4, none⟩ = some (.int .u64 (u : Int)) := by unfold World.cell?; rw [hh1]; rfl
          have c5 : w1.cell? ⟨w.heap.size, 5, none⟩ = some (.int .i64 f) := by unfold World.cell?; rw [hh1]; rfl
          have HH1 : Hid _ := hh1
          clear hb1 hh1
          go_wp2
          go_ret
          exact ⟨by first | rfl | (simp only [e_app, app_e]; rfl) | simp only [e_app, app_e], HB1.out⟩
    · have HUZ : Hid ((u : Int) ≠ 0) := hu
      have hub : ((u : Int) != 0) = true := by simp; omega
      clear hu
      have ha4 := sadd (⟨#[]⟩ ++ (⟨#[32, 99, 111, 117, 110, 116, 32]⟩ ++ X)) (⟨#[32, 115, 116, 97, 109, 112, 32]⟩ ++ Y) (by simp only [sz7, l0, l1, l2]; omega)
      by_cases hf : f = 1
      · subst hf
        have ha5 := sadd ((⟨#[]⟩ ++ (⟨#[32, 99, 111, 117, 110, 116, 32]⟩ ++ X)) ++ (⟨#[32, 115, 116, 97, 109, 112, 32]⟩ ++ Y)) ⟨#[32, 99, 111, 109, 109, 105, 116]⟩ (by simp only [sz7, l0, l1, l2, l3, l4]; omega)
        rw [if_neg HN.out, if_neg HUZ.out, if_pos rfl]
        go_enter Tryd.func19, Tryd.ntmps19
        go_wp2_with fail
        refine (HI.out _ HG.out).mono ?_
        rintro e w1 ⟨rfl, hb1⟩
        have HB1 : Hid (Below w.heap.size w w1) := HA.out.trans (hb1.mono HA.out.size)
        have HG1 : Hid (GW w1) := HG.out.next hb1
        have hh1 : w1.heap[w.heap.size]? = _ := (hb1.block _ (by rw [szAl]; omega)).trans HH.out
        have c4 : w1.cell? ⟨w.heap.size, 4, none⟩ = some (.int .u64 (u : Int)) := by unfold World.cell?; rw [hh1]; rfl
        have c5 : w1.cell? ⟨w.heap.size, 5, none⟩ = some (.int .i64 1) := by unfold World.cell?; rw [hh1]; rfl
        have HH1 : Hid _ := hh1
        clear hb1 hh1
        go_wp2_with fail
        refine (HU.out _ HG1.out).mono ?_
        rintro e w2 ⟨rfl, hb2⟩
        have HB2 : Hid (Below w.heap.size w w2) := HB1.out.trans (hb2.mono HB1.out.size)
        have hh2 : w2.heap[w.heap.size]? = _ := (hb2.block _ (Array.getElem?_eq_some_iff.1 HH1.out).1).trans HH1.out
        have c5b : w2.cell? ⟨w.heap.size, 5, none⟩ = some (.int .i64 1) := by unfold World.cell?; rw [hh2]; rfl
        clear hb2 hh2
        go_wp2
        go_ret
        exact ⟨by first | rfl | (simp only [e_app, app_e]; rfl) | simp only [e_app, app_e], HB2.out⟩
      · have hf1 : (f == 1) = false := by simp [hf]
        rw [if_neg HN.out, if_neg HUZ.out, if_neg hf]
        clear hf
        by_cases hg2 : f = 2
        · subst hg2
          have ha5 := sadd ((⟨#[]⟩ ++ (⟨#[32, 99, 111, 117, 110, 116, 32]⟩ ++ X)) ++ (⟨#[32, 115, 116, 97, 109, 112, 32]⟩ ++ Y)) ⟨#[32, 97, 98, 111, 114, 116]⟩ (by simp only [sz7, l0, l1, l2, l3, l4]; omega)
          rw [if_pos rfl]
          go_enter Tryd.func19, Tryd.ntmps19
          go_wp2_with fail
          refine (HI.out _ HG.out).mono ?_
          rintro e w1 ⟨rfl, hb1⟩
          have HB1 : Hid (Below w.heap.size w w1) := HA.out.trans (hb1.mono HA.out.size)
          have HG1 : Hid (GW w1) := HG.out.next hb1
          have hh1 : w1.heap[w.heap.size]? = _ := (hb1.block _ (by rw [szAl]; omega)).trans HH.out
          have c4 : w1.cell? ⟨w.heap.size, 4, none⟩ = some (.int .u64 (u : Int)) := by unfold World.cell?; rw [hh1]; rfl
          have c5 : w1.cell? ⟨w.heap.size, 5, none⟩ = some (.int .i64 2) := by unfold World.cell?; rw [hh1]; rfl
          have HH1 : Hid _ := hh1
          clear hb1 hh1
          go_wp2_with fail
          refine (HU.out _ HG1.out).mono ?_
          rintro e w2 ⟨rfl, hb2⟩
          have HB2 : Hid (Below w.heap.size w w2) := HB1.out.trans (hb2.mono HB1.out.size)
          have hh2 : w2.heap[w.heap.size]? = _ := (hb2.block _ (Array.getElem?_eq_some_iff.1 HH1.out).1).trans HH1.out
          have c5b : w2.cell? ⟨w.heap.size, 5, none⟩ = some (.int .i64 2) := by unfold World.cell?; rw [hh2]; rfl
          clear hb2 hh2
          go_wp2
          go_ret
          exact ⟨by first | rfl | (simp only [e_app, app_e]; rfl) | simp only [e_app, app_e], HB2.out⟩
        · have hf2 : (f == 2) = false := by simp [hg2]
          rw [if_neg hg2]
          clear hg2
          go_enter Tryd.func19, Tryd.ntmps19
          go_wp2_with fail
          refine (HI.out _ HG.out).mono ?_
          rintro e w1 ⟨rfl, hb1⟩
          have HB1 : Hid (Below w.heap.size w w1) := HA.out.trans (hb1.mono HA.out.size)
          have HG1 : Hid (GW w1) := HG.out.next hb1
          have hh1 : w1.heap[w.heap.size]? = _ := (hb1.block _ (by rw [szAl]; omega)).trans HH.out
          have c4 : w1.cell? ⟨w.heap.size, 4, none⟩ = some (.int .u64 (u : Int)) := by unfold World.cell?; rw [hh1]; rfl
          have c5 : w1.cell? ⟨w.heap.size, 5, none⟩ = some (.int .i64 f) := by unfold World.cell?; rw [hh1]; rfl
          have HH1 : Hid _ := hh1
          clear hb1 hh1
          go_wp2_with fail
          refine (HU.out _ HG1.out).mono ?_
          rintro e w2 ⟨rfl, hb2⟩
          have HB2 : Hid (Below w.heap.size w w2) := HB1.out.trans (hb2.mono HB1.out.size)
          have hh2 : w2.heap[w.heap.size]? = _ := (hb2.block _ (Array.getElem?_eq_some_iff.1 HH1.out).1).trans HH1.out
          have c5b : w2.cell? ⟨w.heap.size, 5, none⟩ = some (.int .i64 f) := by unfold World.cell?; rw [hh2]; rfl
          clear hb2 hh2
          go_wp2
          go_ret
          exact ⟨by first | rfl | (simp only [e_app, app_e]; rfl) | simp only [e_app, app_e], HB2.out⟩
end Go.Proofs.YtoomekcglniohaaDoor
