import Derived.Test.YtfabgoanammaiaaRdKey2
import Derived.Laws.DeepNot64
namespace Go.Proofs.Ytfabgoanammaiaa
open Go.ChangeShapes Go.WideShapes Go.ChangeAt Go.RowKit
set_option linter.unusedVariables false

theorem zbelow (w : World) : Below w.heap.size w (w.alloc (.cells #[.int .i64 0, .int .i64 0, .string ⟨#[]⟩] 45)) := (Below.refl _ _).alloc (Nat.le_refl _) _
/-- The block of a function's own result, after a reader's method. -/
theorem zfr {R : Nat} {s : ByteArray} {p : Nat} (w : World) (h : Rd w R s p) : ∀ w1, Fr R (w.alloc (.cells #[.int .i64 0, .int .i64 0, .string ⟨#[]⟩] 45)) w1 →
    Hid (Fr R w w1) ∧ Hid (w1.heap[w.heap.size]? = some (.cells #[.int .i64 0, .int .i64 0, .string ⟨#[]⟩] 45 (0, 0))) ∧ w1.cell? ⟨w.heap.size, 0, none⟩ = some (.int .i64 0) ∧ w1.cell? ⟨w.heap.size, 1, none⟩ = some (.int .i64 0) ∧ w1.cell? ⟨w.heap.size, 2, none⟩ = some (.string ⟨#[]⟩) ∧ w1.frozen? ⟨w.heap.size, 0, none⟩ = false ∧ w1.frozen? ⟨w.heap.size, 1, none⟩ = false ∧ w1.frozen? ⟨w.heap.size, 2, none⟩ = false := by
  intro w1 hb
  have hl : w.heap.size < (w.alloc (.cells #[.int .i64 0, .int .i64 0, .string ⟨#[]⟩] 45)).heap.size := by show _ < (Array.push _ _).size; simp
  have hg : w1.heap[w.heap.size]? = some (.cells #[.int .i64 0, .int .i64 0, .string ⟨#[]⟩] 45 (0, 0)) := (hb.rest _ hl (Nat.ne_of_gt h.lt)).trans (heap_alloc_new w _)
  exact ⟨(Fr.of (Nat.le_of_lt h.lt) (zbelow w)).trans hb, hg, by simp [World.cell?, hg], by simp [World.cell?, hg], by simp [World.cell?, hg], by simp [World.frozen?, hg], by simp [World.frozen?, hg], by simp [World.frozen?, hg]⟩
theorem zcells {w1 w2 : World} {n : Nat} (hg : w1.heap[n]? = some (.cells #[.int .i64 0, .int .i64 0, .string ⟨#[]⟩] 45 (0, 0))) (hb : Below w1.heap.size w1 w2) :
    Hid (w2.heap[n]? = some (.cells #[.int .i64 0, .int .i64 0, .string ⟨#[]⟩] 45 (0, 0))) ∧ w2.cell? ⟨n, 0, none⟩ = some (.int .i64 0) ∧ w2.cell? ⟨n, 1, none⟩ = some (.int .i64 0) ∧ w2.cell? ⟨n, 2, none⟩ = some (.string ⟨#[]⟩) ∧ w2.frozen? ⟨n, 0, none⟩ = false ∧ w2.frozen? ⟨n, 1, none⟩ = false ∧ w2.frozen? ⟨n, 2, none⟩ = false := by
  have hl : n < w1.heap.size := (Array.getElem?_eq_some_iff.1 hg).1
  have hg : w2.heap[n]? = some (.cells #[.int .i64 0, .int .i64 0, .string ⟨#[]⟩] 45 (0, 0)) := (hb.block _ hl).trans hg
  exact ⟨hg, by simp [World.cell?, hg], by simp [World.cell?, hg], by simp [World.cell?, hg], by simp [World.frozen?, hg], by simp [World.frozen?, hg], by simp [World.frozen?, hg]⟩
theorem Fr.set3 {R n : Nat} {a w : World} {x y z : Value} (h : Fr R a w) (hR : R ≤ n) (hn : a.heap.size ≤ n) : Fr R a (((w.setCell ⟨n, 0, none⟩ x).setCell ⟨n, 1, none⟩ y).setCell ⟨n, 2, none⟩ z) := ((h.setOwn hR hn _).setOwn hR hn _).setOwn hR hn _
/-- The number of a tag: how many bytes, what is turned, what it is worth. -/
def tagN (tag : Int) : Nat := if 56 ≤ tag then (tag - 56).toNat else (55 - tag).toNat
def tagT (tag : Int) : Nat := if 56 ≤ tag then 0 else 255
def tagV (s : ByteArray) (p : Nat) (tag : Int) : Int := if 56 ≤ tag then (magV s p 0 (tagN tag) : Nat) else -1 - ((magV s p 255 (tagN tag) : Nat) : Int)
theorem magE_ok {s : ByteArray} {p t n : Nat} (h : magE s p t n = 0) : magV s p t n < 9223372036854775808 := by
  unfold magE at h
  split at h
  · omega
  · split at h
    · omega
    · split at h
      · omega
      · omega
set_option maxRecDepth 100000 in
set_option maxHeartbeats 1600000 in
theorem rdInt_key (R : Nat) (s : ByteArray) (p : Nat) (tag : Int) (w : World) (h : Rd w R s p) (hp : p ≤ s.size) (hs : s.size ≤ 1125899906842624) (h0 : 47 ≤ tag) (h1 : tag ≤ 64) :
    Calls Try.prog 55 #[.pointer (some ⟨R, 0, none⟩), .int .u8 tag] w (Took R s p w (vA 2 (tagV s p tag) ⟨#[]⟩) (tagN tag) (magE s p (tagT tag) (tagN tag))) := by
  have hz := h.later (zbelow w)
  have Z := zfr w h
  have hlt := h.lt
  by_cases ht : 56 ≤ tag
  · have e1 : tagN tag = (tag - 56).toNat := by unfold tagN; rw [if_pos ht]
    have e2 : tagT tag = 0 := by unfold tagT; rw [if_pos ht]
    have e3 : tagV s p tag = (magV s p 0 (tagN tag) : Nat) := by unfold tagV; rw [if_pos ht]
    have hn : tagN tag ≤ 8 := by omega
    have hM := mag_read R s p (tagN tag) 0 _ hz hp hn (by omega) hs
    rw [e2, e3]
    have he : ((tagN tag : Nat) : Int) = tag - 56 := by omega
    clear e1 e2 e3
    generalize tagN tag = m at *
    rw [he] at hM
    clear he hz h
    go_enter Try.func55, Try.ntmps55
    go_wp2_with fail
    refine hM.mono ?_
    rintro e w1 ⟨hb, ⟨hc, rfl, hr⟩ | ⟨hc, rfl⟩⟩
    · have hA := magE_ok hc
      have HC : Hid (magE s p 0 m = 0) := hc
      have HR : Hid (Rd w1 R s (p + m)) := hr
      obtain ⟨HF, HH, c0, c1, c2, f0, f1, f2⟩ := Z w1 hb
      clear hc hr hb hM Z
      generalize magV s p 0 m = A at *
      have hwr : IntKind.i64.wrap (A : Int) = (A : Int) := by rw [IntKind.wrap_i64]; omega
      clear c0 c1 c2 f0 f1 f2
      go_wp2_with fail
      refine (intValue_any (A : Int) w1).mono ?_
      rintro e w2 ⟨rfl, hb2⟩
      obtain ⟨HH2, c0, c1, c2, f0, f1, f2⟩ := zcells HH.out hb2
      have HF2 : Hid (Fr R w w2) := HF.out.trans (Fr.of (Nat.le_of_lt HR.out.lt) hb2)
      have HR2 : Hid (Rd w2 R s (p + m)) := HR.out.later hb2
      clear hb2 HH HF HR
      unfold vA
      go_wp2
      exact bodyPost_ret (ret_val (p := 4) rfl _ _ 2 (A : Int) ⟨#[]⟩ w.heap.size (by rfl) (set3 HH2.out)) rfl (took_v HC.out rfl (HF2.out.set3 (Nat.le_of_lt hlt) (Nat.le_refl _)) (HR2.out.set3 (Nat.ne_of_gt hlt)))
    · exact ⟨rfl, took_e rfl hc (Z w1 hb).1.out _⟩
  · have e1 : tagN tag = (55 - tag).toNat := by unfold tagN; rw [if_neg ht]
    have e2 : tagT tag = 255 := by unfold tagT; rw [if_neg ht]
    have e3 : tagV s p tag = -1 - ((magV s p 255 (tagN tag) : Nat) : Int) := by unfold tagV; rw [if_neg ht]
    have hn : tagN tag ≤ 8 := by omega
    have hM := mag_read R s p (tagN tag) 255 _ hz hp hn (by omega) hs
    rw [e2, e3]
    have he : ((tagN tag : Nat) : Int) = 55 - tag := by omega
    clear e1 e2 e3
    generalize tagN tag = m at *
    rw [he] at hM
    clear he hz h
    go_enter Try.func55, Try.ntmps55
    go_wp2_with fail
    refine hM.mono ?_
    rintro e w1 ⟨hb, ⟨hc, rfl, hr⟩ | ⟨hc, rfl⟩⟩
    · have hA := magE_ok hc
      have HC : Hid (magE s p 255 m = 0) := hc
      have HR : Hid (Rd w1 R s (p + m)) := hr
      obtain ⟨HF, HH, c0, c1, c2, f0, f1, f2⟩ := Z w1 hb
      clear hc hr hb hM Z
      generalize magV s p 255 m = A at *
      have hwr : IntKind.i64.wrap (A : Int) = (A : Int) := by rw [IntKind.wrap_i64]; omega
      have hno : bits .xor .i64 (-1) (A : Int) = -1 - (A : Int) := i64_not A hA
      clear c0 c1 c2 f0 f1 f2
      go_wp2_with fail
      refine (intValue_any (-1 - (A : Int)) w1).mono ?_
      rintro e w2 ⟨rfl, hb2⟩
      obtain ⟨HH2, c0, c1, c2, f0, f1, f2⟩ := zcells HH.out hb2
      have HF2 : Hid (Fr R w w2) := HF.out.trans (Fr.of (Nat.le_of_lt HR.out.lt) hb2)
      have HR2 : Hid (Rd w2 R s (p + m)) := HR.out.later hb2
      clear hb2 HH HF HR
      unfold vA
      go_wp2
      exact bodyPost_ret (ret_val (p := 4) rfl _ _ 2 (-1 - (A : Int)) ⟨#[]⟩ w.heap.size (by rfl) (set3 HH2.out)) rfl (took_v HC.out rfl (HF2.out.set3 (Nat.le_of_lt hlt) (Nat.le_refl _)) (HR2.out.set3 (Nat.ne_of_gt hlt)))
    · exact ⟨rfl, took_e rfl hc (Z w1 hb).1.out _⟩
end Go.Proofs.Ytfabgoanammaiaa
