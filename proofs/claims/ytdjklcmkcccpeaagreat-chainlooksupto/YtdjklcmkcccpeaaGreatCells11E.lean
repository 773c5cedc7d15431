import Derived.Test.YtdjklcmkcccpeaaGreatCells9E
import Derived.Test.YtdjklcmkcccpeaaGreatGatesE
namespace Go.Proofs.YtdjklcmkcccpeaaGreat
open Go.ChangeShapes Go.WideShapes Go.ChangeAt Go.RowKit Go.MuLone Go.RwLone
set_option linter.unusedVariables false
set_option maxRecDepth 100000
set_option maxHeartbeats 1600000
theorem missing_holds2 {w : World} {L : Lay} {S : AS} (h : Holds w L S) : Calls Tryz.prog 66 #[.pointer (some ⟨L.b, 0, none⟩)] w fun e w' => e = .returned (.bool false) ∧ w' = w := missing_not L.b S.wd w (by have := h.hw.1; omega) h.c0
theorem free_no (L : Lay) (S : AS) (w : World) (x : Int) (h : Holds w L S) (hg : S.g0 = 0) (hr : S.rc = 0) (hx : ¬ S.live x) : Calls Tryz.prog 101 #[.pointer (some ⟨L.b, 0, none⟩), .int .i64 x] w fun e w' => e = .returned (.int .i64 22) ∧ Holds w' L { S with g0 := 0, rc := 0, miss := wrap64 (S.miss + 1) } ∧ Keeps L.has w w' := by
  have H : Hid (Holds w L S) := h
  clear h
  go_enter_defers Tryz.func101, Tryz.ntmps101
  go_wp2_with fail
  refine (missing_holds2 H.out).mono ?_
  rintro e w' ⟨rfl, rfl⟩
  go_wp2_with fail
  refine (gate_lock H.out hg hr).mono ?_
  rintro e w1 ⟨rfl, h1, k1⟩
  have H1 : Hid (Holds w1 L { S with g0 := 1, rc := -1073741824 } ∧ Keeps L.has w' w1) := ⟨h1, k1⟩
  clear h1 k1 H
  go_wp2_with fail
  refine (reach_no L { S with g0 := 1, rc := -1073741824 } w1 x hx H1.out.1).mono ?_
  rintro e w2 ⟨rfl, h2, k2⟩
  have H2 : Hid (Holds w2 L { S with g0 := 1, rc := -1073741824, miss := wrap64 (S.miss + 1) } ∧ Keeps L.has w' w2) := ⟨h2, H1.out.2.trans k2⟩
  clear h2 k2 H1
  go_wp2_with fail
  refine leaves_cons (f := 137) (args := #[.pointer (some ⟨L.b, 3, none⟩)]) (by simp) (by simp [go_sem]) ?_
  refine (gate_unlockD H2.out.1 rfl rfl .returning).mono ?_
  rintro e u' w3 ⟨rfl, rfl, h3, k3⟩
  exact ⟨_, results_tmp rfl _ _ _, rfl, h3, H2.out.2.trans k3⟩
theorem free_ok (L : Lay) (S : AS) (w : World) (k : Nat) (h : Holds w L S) (hg : S.g0 = 0) (hr : S.rc = 0) (hl : S.lk = 0) (hk : k < S.n) (hu : S.use k = true) (hf : S.front < S.n) (hc : S.count ≤ S.n) : Calls Tryz.prog 101 #[.pointer (some ⟨L.b, 0, none⟩), .int .i64 ((k : Int) + 1)] w fun e w' => e = .returned (.int .i64 0) ∧ Holds w' L { S with g0 := 0, rc := 0, lk := 0, acc := wrap64 (S.acc + 1), pay := upd S.pay k Ent.none, use := upd S.use k false, ring := upd S.ring ((S.front + S.count) % S.n) ((k : Int) + 1), count := S.count + 1 } ∧ Keeps L.has w w' := by
  have H : Hid (Holds w L S) := h
  clear h
  go_enter_defers Tryz.func101, Tryz.ntmps101
  go_wp2_with fail
  refine (missing_holds2 H.out).mono ?_
  rintro e w' ⟨rfl, rfl⟩
  go_wp2_with fail
  refine (gate_lock H.out hg hr).mono ?_
  rintro e w1 ⟨rfl, h1, k1⟩
  have H1 : Hid (Holds w1 L { S with g0 := 1, rc := -1073741824 } ∧ Keeps L.has w' w1) := ⟨h1, k1⟩
  clear h1 k1 H
  go_wp2_with fail
  refine (reach_ok L { S with g0 := 1, rc := -1073741824 } w1 k hk hu H1.out.1).mono ?_
  rintro e w2 ⟨rfl, rfl⟩
  go_wp2_with fail
  refine (acc_add H1.out.1).mono ?_
  rintro e w3 ⟨v, rfl, h3, k3⟩
  have H3 : Hid (Holds w3 L { S with g0 := 1, rc := -1073741824, acc := wrap64 (S.acc + 1) } ∧ Keeps L.has w' w3) := ⟨h3, H1.out.2.trans k3⟩
  clear h3 k3 H1
  have HZ : Hid (Holds (w3.alloc (.cells #[.string ⟨#[]⟩, .string ⟨#[]⟩, .int .i64 0] 45)) L { S with g0 := 1, rc := -1073741824, acc := wrap64 (S.acc + 1) } ∧ Keeps L.has w' (w3.alloc (.cells #[.string ⟨#[]⟩, .string ⟨#[]⟩, .int .i64 0] 45))) := ⟨H3.out.1.alloc _, H3.out.2.alloc _⟩
  have c1 := HZ.out.1.c1
  have d2 := HZ.out.1.py k hk
  have d22 := HZ.out.1.pd k hk
  have d23 := HZ.out.1.pt k hk
  have z2 := HZ.out.1.fz L.s (k * 5 + 1) (Or.inr (Or.inl rfl))
  have z22 := HZ.out.1.fz L.s (k * 5 + 2) (Or.inr (Or.inl rfl))
  have z23 := HZ.out.1.fz L.s (k * 5 + 3) (Or.inr (Or.inl rfl))
  simp only [] at d2 d22 d23 c1
  have HU : Hid (∀ W, W = (((w3.alloc (.cells #[.string ⟨#[]⟩, .string ⟨#[]⟩, .int .i64 0] 45)).setCell ⟨L.s, k * 5 + 1, none⟩ (.string ⟨#[]⟩)).setCell ⟨L.s, k * 5 + 2, none⟩ (.string ⟨#[]⟩)).setCell ⟨L.s, k * 5 + 3, none⟩ (.int .i64 0) → Calls Tryz.prog 126 #[.pointer (some ⟨L.s, k * 5, none⟩), .bool false] W fun e w'' => e = .returned (.tuple #[]) ∧ Hid (Holds w'' L { S with g0 := 1, rc := -1073741824, acc := wrap64 (S.acc + 1), pay := upd S.pay k Ent.none, use := upd S.use k false } ∧ Keeps L.has w' w'')) := by
    rintro W rfl
    have HT := HZ.out.1.setPay k Ent.none
    refine (bool_store _ _ false _ (HT.us k hk) (HT.fz _ _ (Or.inr (Or.inl rfl)))).mono ?_
    rintro e w' ⟨rfl, rfl⟩
    exact ⟨rfl, (HT.setUse k false).drew, ((((HZ.out.2.setCell (Or.inr (Or.inl rfl)) _).setCell (Or.inr (Or.inl rfl)) _).setCell (Or.inr (Or.inl rfl)) _).setCell (Or.inr (Or.inl rfl)) _).drew⟩
  clear H3 HZ
  go_wp2_with fail
  refine (HU.out _ rfl).mono ?_
  rintro e w4 ⟨rfl, H4⟩
  clear HU d2 z2 d22 d23 z22 z23 c1
  go_wp2_with fail
  refine (que_lock H4.out.1 hl).mono ?_
  rintro e w5 ⟨rfl, h5, k5⟩
  have H5 : Hid (Holds w5 L { S with g0 := 1, rc := -1073741824, lk := 1, acc := wrap64 (S.acc + 1), pay := upd S.pay k Ent.none, use := upd S.use k false } ∧ Keeps L.has w' w5) := ⟨h5, H4.out.2.trans k5⟩
  clear h5 k5 H4
  go_wp2_with fail
  refine (que_put_any H5.out.1 hf hc _).mono ?_
  rintro e w6 ⟨rfl, h6, k6⟩
  have H6 : Hid (Holds w6 L { S with g0 := 1, rc := -1073741824, lk := 1, acc := wrap64 (S.acc + 1), pay := upd S.pay k Ent.none, use := upd S.use k false, ring := upd S.ring ((S.front + S.count) % S.n) ((k : Int) + 1), count := S.count + 1 } ∧ Keeps L.has w' w6) := ⟨h6, H5.out.2.trans k6⟩
  clear h6 k6 H5
  go_wp2_with fail
  refine leaves_cons (f := 70) (args := #[.pointer (some ⟨L.b, 9, none⟩)]) (by simp) (by simp [go_sem]) ?_
  refine (que_unlockD H6.out.1 rfl .returning).mono ?_
  rintro e u' w7 ⟨rfl, rfl, h7, k7⟩
  refine leaves_cons (f := 137) (args := #[.pointer (some ⟨L.b, 3, none⟩)]) (by simp [settle]) (by simp [go_sem]) ?_
  refine (gate_unlockD h7 rfl rfl .returning).mono ?_
  rintro e u' w8 ⟨rfl, rfl, h8, k8⟩
  exact ⟨_, results_tmp rfl _ _ _, rfl, h8, (H6.out.2.trans k7).trans k8⟩
end Go.Proofs.YtdjklcmkcccpeaaGreat
