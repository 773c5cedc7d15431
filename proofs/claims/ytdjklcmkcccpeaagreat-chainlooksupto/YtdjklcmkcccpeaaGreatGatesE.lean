import Derived.Test.YtdjklcmkcccpeaaGreatCells8E
import Derived.Conc.RwLoneW
namespace Go.Proofs.YtdjklcmkcccpeaaGreat
open Go.ChangeShapes Go.WideShapes Go.ChangeAt Go.RowKit Go.MuLone Go.RwLone
set_option linter.unusedVariables false
theorem AS.eta_rc (S : AS) (x : Int) (h : S.rc = x) : { S with rc := x } = S := by subst h; rfl
theorem AS.eta_lk (S : AS) (x : Int) (h : S.lk = x) : { S with lk := x } = S := by subst h; rfl
theorem AS.eta_g0 (S : AS) (x : Int) (h : S.g0 = x) : { S with g0 := x } = S := by subst h; rfl
theorem w32_up : wrap32 (0 + 1) = 1 := by unfold wrap32; decide
theorem w32_down : wrap32 (1 + -1) = 0 := by unfold wrap32; decide
theorem gate_rlock {w : World} {L : Lay} {S : AS} (h : Holds w L S) (hr : S.rc = 0) : Calls Tryz.prog 67 #[.pointer (some ⟨L.b, 3, none⟩)] w fun e w' => e = .returned (.tuple #[]) ∧ Holds w' L { S with rc := 1 } ∧ Keeps L.has w w' := by
  refine (rlock_open rwRLib L.b 3 0 _ _ w h.c3 h.c6 (by rw [← hr]; exact h.c7) (h.fz _ _ (Or.inl rfl)) (by rw [w32_up]; decide)).mono ?_
  rintro e w' ⟨rfl, rfl⟩
  rw [w32_up]
  exact ⟨rfl, h.setRc 1, (Keeps.refl _ _).setCell (Or.inl rfl) _⟩
theorem gate_runlockD {w : World} {L : Lay} {S : AS} (h : Holds w L S) (hr : S.rc = 1) (u : FrameMode) : CallsD Tryz.prog 68 #[.pointer (some ⟨L.b, 3, none⟩)] u w fun e u' w' => u' = u ∧ (e = .returned (.tuple #[]) ∧ Holds w' L { S with rc := 0 } ∧ Keeps L.has w w') := by
  refine (runlock_deferred rwRLib L.b 3 1 _ _ u w h.c3 h.c5 (by rw [← hr]; exact h.c7) (h.fz _ _ (Or.inl rfl)) (by rw [w32_down]; decide)).mono ?_
  rintro e u' w' ⟨rfl, rfl, rfl⟩
  rw [w32_down]
  exact ⟨rfl, rfl, h.setRc 0, (Keeps.refl _ _).setCell (Or.inl rfl) _⟩
theorem gate_lock {w : World} {L : Lay} {S : AS} (h : Holds w L S) (hg : S.g0 = 0) (hr : S.rc = 0) : Calls Tryz.prog 136 #[.pointer (some ⟨L.b, 3, none⟩)] w fun e w' => e = .returned (.tuple #[]) ∧ Holds w' L { S with g0 := 1, rc := -1073741824 } ∧ Keeps L.has w w' := by
  refine (wlock_free rwWLib L.b 3 _ _ w (by rw [← hg]; exact h.c3) h.c5 h.c6 (by rw [← hr]; exact h.c7) (h.fz _ _ (Or.inl rfl)) (h.fz _ _ (Or.inl rfl))).mono ?_
  rintro e w' ⟨rfl, rfl⟩
  exact ⟨rfl, (h.setG0 1).setRc (-1073741824), ((Keeps.refl _ _).setCell (Or.inl rfl) _).setCell (Or.inl rfl) _⟩
theorem gate_unlockD {w : World} {L : Lay} {S : AS} (h : Holds w L S) (hg : S.g0 = 1) (hr : S.rc = -1073741824) (u : FrameMode) : CallsD Tryz.prog 137 #[.pointer (some ⟨L.b, 3, none⟩)] u w fun e u' w' => u' = u ∧ (e = .returned (.tuple #[]) ∧ Holds w' L { S with g0 := 0, rc := 0 } ∧ Keeps L.has w w') := by
  refine (wunlock_deferred rwWLib L.b 3 _ _ u w (by rw [← hg]; exact h.c3) h.c5 h.c6 (by rw [← hr]; exact h.c7) (h.fz _ _ (Or.inl rfl)) (h.fz _ _ (Or.inl rfl))).mono ?_
  rintro e u' w' ⟨rfl, rfl, rfl⟩
  exact ⟨rfl, rfl, (h.setRc 0).setG0 0, ((Keeps.refl _ _).setCell (Or.inl rfl) _).setCell (Or.inl rfl) _⟩
theorem que_lock {w : World} {L : Lay} {S : AS} (h : Holds w L S) (hr : S.lk = 0) : Calls Tryz.prog 69 #[.pointer (some ⟨L.b, 9, none⟩)] w fun e w' => e = .returned (.tuple #[]) ∧ Holds w' L { S with lk := 1 } ∧ Keeps L.has w w' := by
  refine (lock_free muLib ⟨L.b, 9, none⟩ w (by rw [← hr]; exact h.c9) (h.fz _ _ (Or.inl rfl))).mono ?_
  rintro e w' ⟨rfl, rfl⟩
  exact ⟨rfl, h.setLk 1, (Keeps.refl _ _).setCell (Or.inl rfl) _⟩
theorem que_unlockD {w : World} {L : Lay} {S : AS} (h : Holds w L S) (hr : S.lk = 1) (u : FrameMode) : CallsD Tryz.prog 70 #[.pointer (some ⟨L.b, 9, none⟩)] u w fun e u' w' => u' = u ∧ (e = .returned (.tuple #[]) ∧ Holds w' L { S with lk := 0 } ∧ Keeps L.has w w') := by
  refine (unlock_deferred muLib ⟨L.b, 9, none⟩ u w (by rw [← hr]; exact h.c9) (h.fz _ _ (Or.inl rfl))).mono ?_
  rintro e u' w' ⟨rfl, rfl, rfl⟩
  exact ⟨rfl, rfl, h.setLk 0, (Keeps.refl _ _).setCell (Or.inl rfl) _⟩
theorem acc_add {w : World} {L : Lay} {S : AS} (h : Holds w L S) : Calls Tryz.prog 71 #[.pointer (some ⟨L.b, 14, none⟩), .int .i64 1] w fun e w' => ∃ v, e = .returned v ∧ Holds w' L { S with acc := wrap64 (S.acc + 1) } ∧ Keeps L.has w w' := by
  refine (i64_add _ _ _ w h.c14 (h.fz _ _ (Or.inl rfl))).mono ?_
  rintro e w' ⟨rfl, rfl⟩
  exact ⟨_, rfl, h.setAcc _, (Keeps.refl _ _).setCell (Or.inl rfl) _⟩
theorem Holds.que {w : World} {L : Lay} {S : AS} (h : Holds w L S) : Que w L.b 9 L.q S.n S.front S.count := ⟨h.c11, h.c12, h.c13⟩
theorem que_take {w : World} {L : Lay} {S : AS} (h : Holds w L S) (hf : S.front < S.n) (h0 : 0 < S.count) (hc : S.count ≤ S.n) : Calls Tryz.prog 72 #[.pointer (some ⟨L.b, 9, none⟩)] w fun e w' => e = .returned (.int .i64 (S.ring S.front)) ∧ Holds w' L { S with front := (S.front + 1) % S.n, count := S.count - 1 } ∧ Keeps L.has w w' := by
  refine (take_some L.b 9 L.q S.n S.front S.count _ _ w h.que hf hc h0 (by have := h.hn.2; omega) rfl (h.ri _ hf) (h.fz _ _ (Or.inl rfl)) (h.fz _ _ (Or.inl rfl))).mono ?_
  rintro e w' ⟨rfl, rfl⟩
  have e1 : (S.count : Int) - 1 = ((S.count - 1 : Nat) : Int) := by omega
  rw [e1]
  exact ⟨rfl, ((h.setFront _).setCount _).drew.drew, (((Keeps.refl _ _).setCell (Or.inl rfl) _).setCell (Or.inl rfl) _).drew.drew⟩
theorem que_none {w : World} {L : Lay} {S : AS} (h : Holds w L S) (h0 : S.count = 0) : Calls Tryz.prog 72 #[.pointer (some ⟨L.b, 9, none⟩)] w fun e w' => e = .returned (.int .i64 0) ∧ Holds w' L S ∧ Keeps L.has w w' := by
  have := h.que
  rw [h0] at this
  refine (take_none L.b 9 L.q S.n S.front w this).mono ?_
  rintro e w' ⟨rfl, rfl⟩
  exact ⟨rfl, h, Keeps.refl _ _⟩
theorem que_put_any {w : World} {L : Lay} {S : AS} (h : Holds w L S) (hf : S.front < S.n) (hc : S.count ≤ S.n) (x : Int) : Calls Tryz.prog 111 #[.pointer (some ⟨L.b, 9, none⟩), .int .i64 x] w fun e w' => e = .returned (.tuple #[]) ∧ Holds w' L { S with ring := upd S.ring ((S.front + S.count) % S.n) x, count := S.count + 1 } ∧ Keeps L.has w w' := by
  have hk : (S.front + S.count) % S.n < S.n := Nat.mod_lt _ (by have := h.hn.1; omega)
  refine (put_any L.b 9 L.q S.n S.front S.count _ x _ w h.que hf hc (by have := h.hn.2; omega) rfl (h.ri _ hk) (h.fz _ _ (Or.inr (Or.inr (Or.inr rfl)))) (h.fz _ _ (Or.inl rfl)) h.bq).mono ?_
  rintro e w' ⟨rfl, rfl⟩
  exact ⟨rfl, ((h.setRing _ x).setCount (S.count + 1)).drew, (((Keeps.refl _ _).setCell (Or.inr (Or.inr (Or.inr rfl))) _).setCell (Or.inl rfl) _).drew⟩
end Go.Proofs.YtdjklcmkcccpeaaGreat
