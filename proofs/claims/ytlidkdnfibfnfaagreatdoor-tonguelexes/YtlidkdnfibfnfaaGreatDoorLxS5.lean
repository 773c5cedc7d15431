import Derived.Test.YtlidkdnfibfnfaaGreatDoorLxI
import Derived.Test.YtlidkdnfibfnfaaGreatDoorShelf
namespace Go.Proofs.YtlidkdnfibfnfaaGreatDoor
open Go.ChangeShapes Go.WideShapes Go.ChangeAt Go.RowKit
set_option linter.unusedVariables false
set_option maxRecDepth 100000
/-- Nothing that was there is changed but the block R. -/
structure Fr (R : Nat) (w w' : World) : Prop extends Below R w w' where
  rest : ∀ k, k < w.heap.size → k ≠ R → w'.heap[k]? = w.heap[k]?
theorem Fr.refl (R : Nat) (w : World) : Fr R w w := ⟨Below.refl _ _, fun _ _ _ => rfl⟩
theorem Fr.trans {R : Nat} {a b c : World} (h : Fr R a b) (k : Fr R b c) : Fr R a c := ⟨h.toBelow.trans k.toBelow, fun i hi hn => (k.rest i (Nat.lt_of_lt_of_le hi h.size) hn).trans (h.rest i hi hn)⟩
theorem Fr.drew {R : Nat} {a w : World} (h : Fr R a w) : Fr R a w.drew := ⟨h.toBelow.drew, h.rest⟩
theorem Fr.of {R : Nat} {a w : World} (hR : R ≤ a.heap.size) (h : Below a.heap.size a w) : Fr R a w := ⟨h.mono hR, fun k hk _ => h.block k hk⟩
theorem Fr.alloc {R : Nat} {a w : World} (h : Fr R a w) (hR : R ≤ w.heap.size) (o : Obj) : Fr R a (w.alloc o) := ⟨h.toBelow.alloc hR o, fun k hk hn => (Below.heap_alloc w o k (Nat.lt_of_lt_of_le hk h.size)).trans (h.rest k hk hn)⟩
theorem Fr.setCell {R : Nat} {a w : World} (h : Fr R a w) {p : Addr} (hp : p.block = R) (u : Value) : Fr R a (w.setCell p u) := ⟨h.toBelow.setCell (Nat.le_of_eq hp.symm) u, fun k hk hn => (Below.heap_setCell w p u k (by rw [hp]; exact hn)).trans (h.rest k hk hn)⟩
theorem Fr.setOwn {R : Nat} {a w : World} (h : Fr R a w) {p : Addr} (hR : R ≤ p.block) (hp : a.heap.size ≤ p.block) (u : Value) : Fr R a (w.setCell p u) := ⟨h.toBelow.setCell hR u, fun k hk hn => (Below.heap_setCell w p u k (Nat.ne_of_lt (Nat.lt_of_lt_of_le hk hp))).trans (h.rest k hk hn)⟩
theorem drewN_fr {w w1 : World} {R : Nat} (hd : ∃ n, w1 = w.drewN n) : Fr R w w1 := by
  obtain ⟨n, rfl⟩ := hd
  exact ⟨⟨rfl, rfl, rfl, Nat.le_refl _, fun _ _ => rfl⟩, fun _ _ _ => rfl⟩
theorem Sc.step {w w1 : World} {R : Nat} {s : ByteArray} {p : Nat} (h : Sc w R s p) (hd : ∃ n, w1 = w.drewN n) : Sc w1 R s p := by
  obtain ⟨n, rfl⟩ := hd
  exact h.drewN n
set_option maxHeartbeats 1600000 in
theorem passLineT (R : Nat) (s : ByteArray) (p : Nat) (w : World) (h : Sc w R s p) (hs : s.size ≤ 65536) (hp : p ≤ s.size) :
    Calls Tryz.prog 25 #[.pointer (some ⟨R, 0, none⟩)] w fun e w' => e = .returned (.tuple #[]) ∧ Sc w' R s (lineP s p) ∧ Fr R w w' := by
  have HL : Hid _ := line_ix s p hp
  have hg := Lib.indexByte_ge (s.data.toList.drop p) 10
  have hle := lineP_le s p hp
  have hes : (s.extract p s.size).size = s.size - p := by rw [ByteArray.size_extract]; omega
  have HS : Hid (Sc w R s p) := h
  clear h
  go_enter Tryz.func25, Tryz.ntmps25
  go_wp2_with fail
  refine (restT R s p w HS.out hs hp).mono ?_
  rintro e w1 ⟨rfl, hd⟩
  have HS1 : Hid (Sc w1 R s p) := HS.out.step hd
  have HF1 : Hid (Fr R w w1) := drewN_fr hd
  clear hd
  go_wp2_with fail
  refine (Tryz.strings_IndexByte (s.extract p s.size) 10 w1).mono ?_
  rintro e w2 ⟨rfl, rfl⟩
  rw [rest_list, show ((10 : Int).toNat.toUInt8) = 10 from rfl]
  generalize Lib.indexByte (s.data.toList.drop p) 10 = r at *
  by_cases hr : r = -1
  · have HE : Hid ((lineP s p : Int) = s.size) := HL.out.trans (if_pos hr)
    subst hr
    go_wp2_with fail
    refine (restT R s p w2 HS1.out hs hp).mono ?_
    rintro e w3 ⟨rfl, hd⟩
    have HS2 : Hid (Sc w3 R s p) := HS1.out.step hd
    have HF2 : Hid (Fr R w w3) := HF1.out.trans (drewN_fr hd)
    clear hd
    have c0 := HS2.out.cell0
    have c1 := HS2.out.cell1
    have f1 := HS2.out.free 1
    have hpl : (p : Int) + ((s.size - p : Nat) : Int) = (lineP s p : Int) := by rw [HE.out]; omega
    go_wp2
    go_end0
    exact ⟨rfl, HS2.out.move (lineP s p), HF2.out.setCell rfl _⟩
  · have HE : Hid ((lineP s p : Int) = p + r) := HL.out.trans (if_neg hr)
    have hr0 : ¬ r < 0 := by omega
    have c0 := HS1.out.cell0
    have c1 := HS1.out.cell1
    have f1 := HS1.out.free 1
    have hpl : (p : Int) + r = (lineP s p : Int) := HE.out.symm
    go_wp2
    go_end0
    exact ⟨rfl, HS1.out.move (lineP s p), HF1.out.setCell rfl _⟩
/-- How going over a remark ends. -/
def RemR (R : Nat) (s : ByteArray) (p : Nat) (e : Ending) (w' : World) : Prop := match remP s (p + 2) with
  | none => e = gaveUp 151 p
  | some j => e = .returned (.tuple #[]) ∧ Sc w' R s (j + 2)
set_option maxHeartbeats 1600000 in
theorem passRemarkT (R : Nat) (s : ByteArray) (p : Nat) (w : World) (h : Sc w R s p) (hs : s.size ≤ 65536) (hp : p + 2 ≤ s.size) (m : Int) (hm : w.cell? ⟨2, 0, none⟩ = some (.int .i64 m)) :
    Calls Tryz.prog 26 #[.pointer (some ⟨R, 0, none⟩)] w fun e w' => RemR R s p e w' ∧ Fr R w w' := by
  have HI : Hid _ := rem_ix s (p + 2)
  have hes : (s.extract p s.size).size = s.size - p := by rw [ByteArray.size_extract]; omega
  have HX : Hid ((s.extract p s.size).extract 2 (s.size - p) = s.extract (p + 2) s.size) := by
    show (s.extract p s.size).extract 2 (s.size - p) = s.extract (p + 2) s.size
    rw [ByteArray.extract_extract]
    congr 1
    omega
  have HS : Hid (Sc w R s p) := h
  clear h
  go_enter Tryz.func26, Tryz.ntmps26
  go_wp2_with fail
  refine (restT R s p w HS.out hs (by omega)).mono ?_
  rintro e w1 ⟨rfl, hd⟩
  have HS1 : Hid (Sc w1 R s p) := HS.out.step hd
  have HF1 : Hid (Fr R w w1) := drewN_fr hd
  have hm1 : w1.cell? ⟨2, 0, none⟩ = some (.int .i64 m) := by
    obtain ⟨n, rfl⟩ := hd
    exact hm
  clear hd hm
  go_wp2_with fail
  rw [HX.out]
  refine (Tryz.strings_Index (s.extract (p + 2) s.size) ⟨#[42, 47]⟩ m w1 (by rw [ByteArray.size_extract]; omega) hm1).mono ?_
  rintro e w2 ⟨rfl, rfl⟩
  rw [rest_list, show (ByteArray.mk #[42, 47]).data.toList = [42, 47] from rfl]
  rcases HI.out with ⟨h1, h2⟩ | ⟨n, h1, h2⟩
  · have HE : Hid (remP s (p + 2) = none) := h2
    rw [h1]
    clear h1 h2 HI
    have c0 := HS1.out.cell0
    have c1 := HS1.out.cell1
    go_wp2
    exact ⟨rfl, by unfold RemR; rw [HE.out]; rfl, HF1.out⟩
  · have hge := remP_ge h2
    have HE : Hid (remP s (p + 2) = some (p + 2 + n)) := h2
    rw [h1]
    clear h1 h2 HI
    have c0 := HS1.out.cell0
    have c1 := HS1.out.cell1
    have f1 := HS1.out.free 1
    have hn0 : ¬ (n : Int) < 0 := by omega
    go_wp2
    go_end0
    refine ⟨?_, HF1.out.setCell rfl _⟩
    unfold RemR
    rw [HE.out]
    refine ⟨rfl, ?_⟩
    have := HS1.out.move (p + 2 + n + 2)
    rwa [show ((p + 2 + n + 2 : Nat) : Int) = (p : Int) + (2 + (n : Int) + 2) from by omega] at this
end Go.Proofs.YtlidkdnfibfnfaaGreatDoor
