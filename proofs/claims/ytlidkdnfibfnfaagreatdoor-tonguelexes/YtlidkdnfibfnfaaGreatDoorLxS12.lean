import Derived.Test.YtlidkdnfibfnfaaGreatDoorLxS11
namespace Go.Proofs.YtlidkdnfibfnfaaGreatDoor
open Go.ChangeShapes Go.WideShapes Go.ChangeAt Go.RowKit
set_option linter.unusedVariables false
set_option maxRecDepth 100000
/-- Whether a sign stands at p. -/
def mtS (s : ByteArray) (p : Nat) : List UInt8 → Prop
  | [x, y] => bA s p = x.toNat ∧ bA s (p + 1) = y.toNat
  | [x] => bA s p = x.toNat
  | _ => False
def sgA (k : Nat) : List UInt8 := sgs.getD k []
theorem extTwo {s : ByteArray} {p : Nat} {x y : UInt8} (h1 : bA s p = x.toNat) (h2 : bA s (p + 1) = y.toNat) : s.extract p (p + 2) = ⟨#[x, y]⟩ := by
  have hy := y.toNat_lt
  have hl : p + 1 < s.size := bA_lt (by omega)
  rw [bA_of (by omega : p < s.size)] at h1
  rw [bA_of hl] at h2
  apply ByteArray.ext
  apply Array.ext'
  rw [digsL_ext, digsL_cons (by omega) (by omega : p < s.size), digsL_cons (by omega) hl, show p + 1 + 1 = p + 2 from rfl, digsL_nil, UInt8.toNat_inj.1 h1, UInt8.toNat_inj.1 h2]
theorem extOne {s : ByteArray} {p : Nat} {x : UInt8} (h1 : bA s p = x.toNat) : s.extract p (p + 1) = ⟨#[x]⟩ := by
  have hx := x.toNat_lt
  have hl : p < s.size := bA_lt (by omega)
  rw [bA_of hl] at h1
  apply ByteArray.ext
  apply Array.ext'
  rw [digsL_ext, digsL_cons (by omega) hl, digsL_nil, UInt8.toNat_inj.1 h1]
theorem sign_hit {s : ByteArray} {p : Nat} : ∀ (k : Nat), k < 18 → (∀ j, j < k → ¬ mtS s p (sgA j)) → mtS s p (sgA k) → signP s p = .ok (⟨5, if k = 4 then ⟨#[60, 62]⟩ else ⟨(sgA k).toArray⟩, 0, p⟩, p + (sgA k).length)
  | 0, hk, hno, h => by
    have h0 : bA s p = 60 ∧ bA s (p + 1) = 62 := h
    rw [signP_two (by omega), extTwo (x := 60) (y := 62) h0.1 h0.2]
    rfl
  | 1, hk, hno, h => by
    have h0 : bA s p = 60 ∧ bA s (p + 1) = 61 := h
    rw [signP_two (by omega), extTwo (x := 60) (y := 61) h0.1 h0.2]
    rfl
  | 2, hk, hno, h => by
    have h0 : bA s p = 62 ∧ bA s (p + 1) = 61 := h
    rw [signP_two (by omega), extTwo (x := 62) (y := 61) h0.1 h0.2]
    rfl
  | 3, hk, hno, h => by
    have h0 : bA s p = 124 ∧ bA s (p + 1) = 124 := h
    rw [signP_two (by omega), extTwo (x := 124) (y := 124) h0.1 h0.2]
    rfl
  | 4, hk, hno, h => by
    have h0 : bA s p = 33 ∧ bA s (p + 1) = 61 := h
    rw [signP_ne h0]
    rfl
  | 5, hk, hno, h => by
    have h0 : bA s p = 40 := h
    have n0 : ¬ (bA s p = 60 ∧ bA s (p + 1) = 62) := hno 0 (by omega)
    have n1 : ¬ (bA s p = 60 ∧ bA s (p + 1) = 61) := hno 1 (by omega)
    have n2 : ¬ (bA s p = 62 ∧ bA s (p + 1) = 61) := hno 2 (by omega)
    have n3 : ¬ (bA s p = 124 ∧ bA s (p + 1) = 124) := hno 3 (by omega)
    have n4 : ¬ (bA s p = 33 ∧ bA s (p + 1) = 61) := hno 4 (by omega)
    rw [signP_one (by omega) (by omega) (by omega), extOne (x := 40) h0]
    rfl
  | 6, hk, hno, h => by
    have h0 : bA s p = 41 := h
    have n0 : ¬ (bA s p = 60 ∧ bA s (p + 1) = 62) := hno 0 (by omega)
    have n1 : ¬ (bA s p = 60 ∧ bA s (p + 1) = 61) := hno 1 (by omega)
    have n2 : ¬ (bA s p = 62 ∧ bA s (p + 1) = 61) := hno 2 (by omega)
    have n3 : ¬ (bA s p = 124 ∧ bA s (p + 1) = 124) := hno 3 (by omega)
    have n4 : ¬ (bA s p = 33 ∧ bA s (p + 1) = 61) := hno 4 (by omega)
    rw [signP_one (by omega) (by omega) (by omega), extOne (x := 41) h0]
    rfl
  | 7, hk, hno, h => by
    have h0 : bA s p = 44 := h
    have n0 : ¬ (bA s p = 60 ∧ bA s (p + 1) = 62) := hno 0 (by omega)
    have n1 : ¬ (bA s p = 60 ∧ bA s (p + 1) = 61) := hno 1 (by omega)
    have n2 : ¬ (bA s p = 62 ∧ bA s (p + 1) = 61) := hno 2 (by omega)
    have n3 : ¬ (bA s p = 124 ∧ bA s (p + 1) = 124) := hno 3 (by omega)
    have n4 : ¬ (bA s p = 33 ∧ bA s (p + 1) = 61) := hno 4 (by omega)
    rw [signP_one (by omega) (by omega) (by omega), extOne (x := 44) h0]
    rfl
  | 8, hk, hno, h => by
    have h0 : bA s p = 59 := h
    have n0 : ¬ (bA s p = 60 ∧ bA s (p + 1) = 62) := hno 0 (by omega)
    have n1 : ¬ (bA s p = 60 ∧ bA s (p + 1) = 61) := hno 1 (by omega)
    have n2 : ¬ (bA s p = 62 ∧ bA s (p + 1) = 61) := hno 2 (by omega)
    have n3 : ¬ (bA s p = 124 ∧ bA s (p + 1) = 124) := hno 3 (by omega)
    have n4 : ¬ (bA s p = 33 ∧ bA s (p + 1) = 61) := hno 4 (by omega)
    rw [signP_one (by omega) (by omega) (by omega), extOne (x := 59) h0]
    rfl
  | 9, hk, hno, h => by
    have h0 : bA s p = 42 := h
    have n0 : ¬ (bA s p = 60 ∧ bA s (p + 1) = 62) := hno 0 (by omega)
    have n1 : ¬ (bA s p = 60 ∧ bA s (p + 1) = 61) := hno 1 (by omega)
    have n2 : ¬ (bA s p = 62 ∧ bA s (p + 1) = 61) := hno 2 (by omega)
    have n3 : ¬ (bA s p = 124 ∧ bA s (p + 1) = 124) := hno 3 (by omega)
    have n4 : ¬ (bA s p = 33 ∧ bA s (p + 1) = 61) := hno 4 (by omega)
    rw [signP_one (by omega) (by omega) (by omega), extOne (x := 42) h0]
    rfl
  | 10, hk, hno, h => by
    have h0 : bA s p = 43 := h
    have n0 : ¬ (bA s p = 60 ∧ bA s (p + 1) = 62) := hno 0 (by omega)
    have n1 : ¬ (bA s p = 60 ∧ bA s (p + 1) = 61) := hno 1 (by omega)
    have n2 : ¬ (bA s p = 62 ∧ bA s (p + 1) = 61) := hno 2 (by omega)
    have n3 : ¬ (bA s p = 124 ∧ bA s (p + 1) = 124) := hno 3 (by omega)
    have n4 : ¬ (bA s p = 33 ∧ bA s (p + 1) = 61) := hno 4 (by omega)
    rw [signP_one (by omega) (by omega) (by omega), extOne (x := 43) h0]
    rfl
  | 11, hk, hno, h => by
    have h0 : bA s p = 45 := h
    have n0 : ¬ (bA s p = 60 ∧ bA s (p + 1) = 62) := hno 0 (by omega)
    have n1 : ¬ (bA s p = 60 ∧ bA s (p + 1) = 61) := hno 1 (by omega)
    have n2 : ¬ (bA s p = 62 ∧ bA s (p + 1) = 61) := hno 2 (by omega)
    have n3 : ¬ (bA s p = 124 ∧ bA s (p + 1) = 124) := hno 3 (by omega)
    have n4 : ¬ (bA s p = 33 ∧ bA s (p + 1) = 61) := hno 4 (by omega)
    rw [signP_one (by omega) (by omega) (by omega), extOne (x := 45) h0]
    rfl
  | 12, hk, hno, h => by
    have h0 : bA s p = 47 := h
    have n0 : ¬ (bA s p = 60 ∧ bA s (p + 1) = 62) := hno 0 (by omega)
    have n1 : ¬ (bA s p = 60 ∧ bA s (p + 1) = 61) := hno 1 (by omega)
    have n2 : ¬ (bA s p = 62 ∧ bA s (p + 1) = 61) := hno 2 (by omega)
    have n3 : ¬ (bA s p = 124 ∧ bA s (p + 1) = 124) := hno 3 (by omega)
    have n4 : ¬ (bA s p = 33 ∧ bA s (p + 1) = 61) := hno 4 (by omega)
    rw [signP_one (by omega) (by omega) (by omega), extOne (x := 47) h0]
    rfl
  | 13, hk, hno, h => by
    have h0 : bA s p = 37 := h
    have n0 : ¬ (bA s p = 60 ∧ bA s (p + 1) = 62) := hno 0 (by omega)
    have n1 : ¬ (bA s p = 60 ∧ bA s (p + 1) = 61) := hno 1 (by omega)
    have n2 : ¬ (bA s p = 62 ∧ bA s (p + 1) = 61) := hno 2 (by omega)
    have n3 : ¬ (bA s p = 124 ∧ bA s (p + 1) = 124) := hno 3 (by omega)
    have n4 : ¬ (bA s p = 33 ∧ bA s (p + 1) = 61) := hno 4 (by omega)
    rw [signP_one (by omega) (by omega) (by omega), extOne (x := 37) h0]
    rfl
  | 14, hk, hno, h => by
    have h0 : bA s p = 61 := h
    have n0 : ¬ (bA s p = 60 ∧ bA s (p + 1) = 62) := hno 0 (by omega)
    have n1 : ¬ (bA s p = 60 ∧ bA s (p + 1) = 61) := hno 1 (by omega)
    have n2 : ¬ (bA s p = 62 ∧ bA s (p + 1) = 61) := hno 2 (by omega)
    have n3 : ¬ (bA s p = 124 ∧ bA s (p + 1) = 124) := hno 3 (by omega)
    have n4 : ¬ (bA s p = 33 ∧ bA s (p + 1) = 61) := hno 4 (by omega)
    rw [signP_one (by omega) (by omega) (by omega), extOne (x := 61) h0]
    rfl
  | 15, hk, hno, h => by
    have h0 : bA s p = 60 := h
    have n0 : ¬ (bA s p = 60 ∧ bA s (p + 1) = 62) := hno 0 (by omega)
    have n1 : ¬ (bA s p = 60 ∧ bA s (p + 1) = 61) := hno 1 (by omega)
    have n2 : ¬ (bA s p = 62 ∧ bA s (p + 1) = 61) := hno 2 (by omega)
    have n3 : ¬ (bA s p = 124 ∧ bA s (p + 1) = 124) := hno 3 (by omega)
    have n4 : ¬ (bA s p = 33 ∧ bA s (p + 1) = 61) := hno 4 (by omega)
    rw [signP_one (by omega) (by omega) (by omega), extOne (x := 60) h0]
    rfl
  | 16, hk, hno, h => by
    have h0 : bA s p = 62 := h
    have n0 : ¬ (bA s p = 60 ∧ bA s (p + 1) = 62) := hno 0 (by omega)
    have n1 : ¬ (bA s p = 60 ∧ bA s (p + 1) = 61) := hno 1 (by omega)
    have n2 : ¬ (bA s p = 62 ∧ bA s (p + 1) = 61) := hno 2 (by omega)
    have n3 : ¬ (bA s p = 124 ∧ bA s (p + 1) = 124) := hno 3 (by omega)
    have n4 : ¬ (bA s p = 33 ∧ bA s (p + 1) = 61) := hno 4 (by omega)
    rw [signP_one (by omega) (by omega) (by omega), extOne (x := 62) h0]
    rfl
  | 17, hk, hno, h => by
    have h0 : bA s p = 64 := h
    have n0 : ¬ (bA s p = 60 ∧ bA s (p + 1) = 62) := hno 0 (by omega)
    have n1 : ¬ (bA s p = 60 ∧ bA s (p + 1) = 61) := hno 1 (by omega)
    have n2 : ¬ (bA s p = 62 ∧ bA s (p + 1) = 61) := hno 2 (by omega)
    have n3 : ¬ (bA s p = 124 ∧ bA s (p + 1) = 124) := hno 3 (by omega)
    have n4 : ¬ (bA s p = 33 ∧ bA s (p + 1) = 61) := hno 4 (by omega)
    rw [signP_one (by omega) (by omega) (by omega), extOne (x := 64) h0]
    rfl
  | k + 18, hk, _, _ => absurd hk (by omega)
theorem sign_bad {s : ByteArray} {p : Nat} (h : ∀ j, j < 18 → ¬ mtS s p (sgA j)) : signP s p = .error 150 := by
  have n0 : ¬ (bA s p = 60 ∧ bA s (p + 1) = 62) := h 0 (by omega)
  have n1 : ¬ (bA s p = 60 ∧ bA s (p + 1) = 61) := h 1 (by omega)
  have n2 : ¬ (bA s p = 62 ∧ bA s (p + 1) = 61) := h 2 (by omega)
  have n3 : ¬ (bA s p = 124 ∧ bA s (p + 1) = 124) := h 3 (by omega)
  have n4 : ¬ (bA s p = 33 ∧ bA s (p + 1) = 61) := h 4 (by omega)
  have n5 : ¬ (bA s p = 40) := h 5 (by omega)
  have n6 : ¬ (bA s p = 41) := h 6 (by omega)
  have n7 : ¬ (bA s p = 44) := h 7 (by omega)
  have n8 : ¬ (bA s p = 59) := h 8 (by omega)
  have n9 : ¬ (bA s p = 42) := h 9 (by omega)
  have n10 : ¬ (bA s p = 43) := h 10 (by omega)
  have n11 : ¬ (bA s p = 45) := h 11 (by omega)
  have n12 : ¬ (bA s p = 47) := h 12 (by omega)
  have n13 : ¬ (bA s p = 37) := h 13 (by omega)
  have n14 : ¬ (bA s p = 61) := h 14 (by omega)
  have n15 : ¬ (bA s p = 60) := h 15 (by omega)
  have n16 : ¬ (bA s p = 62) := h 16 (by omega)
  have n17 : ¬ (bA s p = 64) := h 17 (by omega)
  exact signP_bad (by omega) (by omega) (by omega)
theorem mt_dec (s : ByteArray) (p : Nat) (hp : p ≤ s.size) : ∀ (l : List UInt8), l.length = 1 ∨ l.length = 2 → (decide ((s.extract p s.size).extract 0 (ByteArray.mk l.toArray).size = ByteArray.mk l.toArray) = true ↔ mtS s p l)
  | [x], _ => by
    rw [rest_one x hp, decide_eq_true_iff]
    rfl
  | [x, y], _ => by
    rw [rest_two x y hp, decide_eq_true_iff]
    rfl
  | [], h => by simp at h
  | x :: y :: z :: l, h => by simp at h
theorem sgA_len : ∀ k, k < 18 → (sgA k).length = 1 ∨ (sgA k).length = 2 := by decide
theorem sgs_at (k : Nat) (h : k < sgs.length) : sgs[k] = sgA k := by
  unfold sgA
  rw [List.getD_eq_getElem?_getD, List.getElem?_eq_getElem h]
  rfl
theorem sg_ne : ∀ k, k < 18 → ((sgA k) = [33, 61] ↔ k = 4) := by decide
set_option maxHeartbeats 3200000 in
theorem signT (R : Nat) (s : ByteArray) (p : Nat) (w : World) (h : Sc w R s p) (hs : s.size ≤ 65536) (hp : p < s.size) (hg : GX w) (hR : 11 ≤ R) :
    Calls Tryz.prog 34 #[.pointer (some ⟨R, 0, none⟩)] w fun e w' => TokR R s p (signP s p) e w' ∧ Fr R w w' := by
  have HT : Hid (TkS R s w (w.alloc (.cells tkZ 30)) p) := TkS.new h
  have HR : Hid ((w.alloc (.cells tkZ 30)).rangeAt 0 0 (tabS sgs)) := tab_at (HT.out.gx hg hR).sg
  have HI : Hid (∀ (k : Nat) (hk : k < sgs.length) (w : World), _) := fun k hk w => ix_tab 64 18 u18 sgs rfl k hk w
  have HL : Hid ((tabS sgs).length = 18) := by show (tabS sgs).length = 18; rfl
  clear h hg
  go_enter Tryz.func34, Tryz.ntmps34
  go_wp2_with (refine wpList_load_mid (by rfl) 64 (.global 0) (by rfl) 0 0 (by rfl) (tabS sgs) _ HR.out u18 rfl (by rw [HL.out]; exact i18) ?_)
  generalize hW0 : w.alloc (.cells tkZ 30) = W0 at *
  clear hW0
  go_loopw [4, 6] (fun _ x wr => ∃ k : Nat, k ≤ 18 ∧ x = .int .i64 (k : Int) ∧ TkS R s w wr p ∧ ∀ j, j < k → ¬ mtS s p (sgA j)) (fun _ x _ => 18 - (intOf x).toNat)
  case atStart => exact ⟨0, by omega, rfl, HT.out, fun j h => by omega⟩
  case round =>
    obtain ⟨k, hk, rfl, ht, hno⟩ := hrel
    have HN : Hid (∀ j, j < k → ¬ mtS s p (sgA j)) := hno
    have HTk : Hid (TkS R s w wr p) := ht
    clear hno ht HR HL
    by_cases hl : k < 18
    · have hli : (k : Int) < 18 := by omega
      have hkl : k < sgs.length := hl
      have hix := HI.out k hkl
      rw [sgs_at k hkl] at hix
      have hl1 := sgA_len k hl
      have hz : (ByteArray.mk (sgA k).toArray).size = (sgA k).length := by show (sgA k).toArray.size = _; simp
      have HM : Hid _ := mt_dec s p (Nat.le_of_lt hp) (sgA k) hl1
      have hez : (s.extract p s.size).size ≤ 65536 := by rw [ByteArray.size_extract]; omega
      have HPX : Hid (∀ W : World, _) := fun W => preT (s.extract p s.size) (ByteArray.mk (sgA k).toArray) W (by omega) hez
      have HH : Hid (mtS s p (sgA k) → signP s p = .ok (⟨5, if k = 4 then ⟨#[60, 62]⟩ else ⟨(sgA k).toArray⟩, 0, p⟩, p + (sgA k).length)) := fun h => sign_hit k hl HN.out h
      have HNE : Hid ((ByteArray.mk (sgA k).toArray = ⟨#[33, 61]⟩) ↔ k = 4) := by
        show (ByteArray.mk (sgA k).toArray = ⟨#[33, 61]⟩) ↔ k = 4
        rw [← sg_ne k hl]
        constructor
        · intro e
          injection e with e
          simpa using congrArg Array.toList e
        · intro e
          rw [e]
      generalize decide ((s.extract p s.size).extract 0 (ByteArray.mk (sgA k).toArray).size = ByteArray.mk (sgA k).toArray) = b at *
      generalize hV : ByteArray.mk (sgA k).toArray = V at *
      generalize hLn : (sgA k).length = L at *
      clear HI
      go_wp2_with fail
      refine (restT R s p wr HTk.out.sc hs (Nat.le_of_lt hp)).mono ?_
      rintro e w1 ⟨rfl, hd⟩
      have HT1 : Hid (TkS R s w w1 p) := HTk.out.next (drewN_fr hd) (HTk.out.sc.step hd)
      clear hd HTk
      go_wp2_with fail
      refine (HPX.out _).mono ?_
      rintro e w2 ⟨rfl, rfl⟩
      cases b with
      | false =>
        have HN2 : Hid (∀ j, j < k + 1 → ¬ mtS s p (sgA j)) := fun j hj => by
          rcases Nat.lt_or_ge j k with h1 | h1
          · exact HN.out j h1
          · have e : j = k := by omega
            subst e
            intro hm
            exact Bool.noConfusion (HM.out.2 hm)
        go_wp2
        go_roundw
        case rel => exact ⟨k + 1, by omega, by go_num, HT1.out, HN2.out⟩
        case measure => simp [intOf]; omega
      | true =>
        have HS : Hid (signP s p = .ok (⟨5, if k = 4 then ⟨#[60, 62]⟩ else V, 0, p⟩, p + L)) := HH.out (HM.out.1 rfl)
        have c1 := HT1.out.sc.cell1
        have f1 := HT1.out.sc.free 1
        have hpl : (p : Int) + (L : Int) = ((p + L : Nat) : Int) := by omega
        clear HPX HM HH HN
        have HT2 : Hid (TkS R s w (w2.setCell ⟨R, 1, none⟩ (.int .i64 ((p : Int) + (L : Int)))) (p + L)) := by
          have h1 := HT1.out.sc.move (p + L)
          rw [← hpl] at h1
          exact HT1.out.next ((Fr.refl R w2).setCell (p := ⟨R, 1, none⟩) rfl _) h1
        clear hpl
        obtain ⟨d0, d1, d2, d3, f10, f11, f12, f13⟩ := zTk HT2.out.bx
        by_cases h4 : k = 4
        · have hve : V = ⟨#[33, 61]⟩ := HNE.out.2 h4
          have HS2 : Hid (signP s p = .ok (⟨5, ⟨#[60, 62]⟩, 0, p⟩, p + L)) := by show signP s p = _; rw [HS.out, if_pos h4]
          clear HNE HS h4
          have h1 : (V.toList == (ByteArray.mk #[33, 61]).toList) = true := by rw [hve, beq_self_eq_true]
          have h2 : V.toList = (ByteArray.mk #[33, 61]).toList := by rw [hve]
          clear hve
          go_wp2
          refine bodyPost_ret (results_cell_row rfl _ _ w.heap.size _ _ (0, 0) _ (by rfl) (set4 HT2.out.bx) Tryz.underlying30 rfl infoTk) rfl ⟨?_, (HT2.out.done _ _ _ _).2⟩
          unfold TokR
          rw [HS2.out]
          exact ⟨rfl, (HT2.out.done _ _ _ _).1⟩
        · have hve : ¬ V = ⟨#[33, 61]⟩ := fun e => h4 (HNE.out.1 e)
          have HS2 : Hid (signP s p = .ok (⟨5, V, 0, p⟩, p + L)) := by show signP s p = _; rw [HS.out, if_neg h4]
          clear HNE HS h4
          have h1 : (V.toList == [33, 61]) = false := by
            have e : (ByteArray.mk #[33, 61]).toList = [33, 61] := by rw [ByteArray.toList_eq]
            rw [← e, str_beq]; exact decide_eq_false hve
          have h2 : ¬ V.toList = [33, 61] := fun e => by rw [e, beq_self_eq_true] at h1; cases h1
          clear hve
          go_wp2
          refine bodyPost_ret (results_cell_row rfl _ _ w.heap.size _ _ (0, 0) _ (by rfl) (set4 HT2.out.bx) Tryz.underlying30 rfl infoTk) rfl ⟨?_, (HT2.out.done _ _ _ _).2⟩
          unfold TokR
          rw [HS2.out]
          exact ⟨rfl, (HT2.out.done _ _ _ _).1⟩
    · have hli : ¬ (k : Int) < 18 := by omega
      have HE : Hid (signP s p = .error 150) := sign_bad (fun j hj => HN.out j (by omega))
      have c1 := HTk.out.sc.cell1
      go_wp2
      exact ⟨rfl, by unfold TokR; rw [HE.out]; rfl, HTk.out.fr⟩
end Go.Proofs.YtlidkdnfibfnfaaGreatDoor
