import Derived.Test.YtoomekcglniohaaDoorSpI
namespace Go.Proofs.YtoomekcglniohaaDoor
open Go.ChangeShapes Go.WideShapes Go.ChangeAt Go.RowKit
set_option linter.unusedVariables false
set_option maxRecDepth 100000
/-- A reply lies in eleven cells, its lists in blocks below B. -/
structure RpIn (w : World) (B b o : Nat) (r : RP) (na : Option Addr) (nc : Nat) (ra : Option Addr) (rc : Nat) (ma : Option Addr) (mc : Nat) : Prop where
  c0 : w.cell? ⟨b, o, none⟩ = some (.int .i64 r.cmd)
  c1 : w.cell? ⟨b, o + 1, none⟩ = some (.int .i64 r.kind)
  c2 : w.cell? ⟨b, o + 2, none⟩ = some (.int .i64 r.who)
  c3 : w.cell? ⟨b, o + 3, none⟩ = some (.int .i64 r.code)
  c4 : w.cell? ⟨b, o + 4, none⟩ = some (.int .i64 r.rcode)
  c5 : w.cell? ⟨b, o + 5, none⟩ = some (.slice na r.names.length nc)
  c6 : w.cell? ⟨b, o + 6, none⟩ = some (.slice ra r.rows.length rc)
  c7 : w.cell? ⟨b, o + 7, none⟩ = some (.int .i64 r.count)
  c8 : w.cell? ⟨b, o + 8, none⟩ = some (.int .u64 r.stamp)
  c9 : w.cell? ⟨b, o + 9, none⟩ = some (.int .i64 r.fin)
  c10 : w.cell? ⟨b, o + 10, none⟩ = some (.slice ma r.nums.length mc)
  names : SeesG Value.string w B (.slice na r.names.length nc) r.names
  rows : SeesRs w B (.slice ra r.rows.length rc) r.rows
  nums : SeesG (Value.int .i64) w B (.slice ma r.nums.length mc) r.nums
def RpAt (w : World) (B b o : Nat) (r : RP) : Prop := ∃ na nc ra rc ma mc, RpIn w B b o r na nc ra rc ma mc
theorem RpAt.later {w w' : World} {B b o : Nat} {r : RP} (h : RpAt w B b o r) (hb : Below B w w') (hB : b < B) : RpAt w' B b o r := by
  obtain ⟨na, nc, ra, rc, ma, mc, h⟩ := h
  exact ⟨na, nc, ra, rc, ma, mc, (hb.cell hB).trans h.c0, (hb.cell hB).trans h.c1, (hb.cell hB).trans h.c2, (hb.cell hB).trans h.c3, (hb.cell hB).trans h.c4, (hb.cell hB).trans h.c5, (hb.cell hB).trans h.c6, (hb.cell hB).trans h.c7, (hb.cell hB).trans h.c8, (hb.cell hB).trans h.c9, (hb.cell hB).trans h.c10, h.names.later hb, h.rows.later hb, h.nums.later hb⟩
theorem RpAt.up {w : World} {B C b o : Nat} {r : RP} (h : RpAt w B b o r) (hb : B ≤ C) : RpAt w C b o r := by
  obtain ⟨na, nc, ra, rc, ma, mc, h⟩ := h
  exact ⟨na, nc, ra, rc, ma, mc, h.c0, h.c1, h.c2, h.c3, h.c4, h.c5, h.c6, h.c7, h.c8, h.c9, h.c10, h.names.up hb, h.rows.up hb, h.nums.up hb⟩
/-- The slice value v holds the replies rs, in blocks below B. -/
def SeesP (w : World) (B : Nat) (v : Value) (rs : List RP) : Prop :=
  ∃ ao cap, v = .slice ao rs.length cap ∧ rs.length ≤ cap ∧ (∀ i (hi : i < rs.length), ∃ b off, ao = some ⟨b, off, none⟩ ∧ b < B ∧ RpAt w B b (off + i * 11) rs[i])
theorem SeesP.later {w w' : World} {B : Nat} {v : Value} {rs : List RP} (h : SeesP w B v rs) (hb : Below B w w') : SeesP w' B v rs := by
  obtain ⟨ao, cap, rfl, h1, h3⟩ := h
  refine ⟨ao, cap, rfl, h1, fun i hi => ?_⟩
  obtain ⟨b, off, e, hbB, c0⟩ := h3 i hi
  exact ⟨b, off, e, hbB, c0.later hb hbB⟩
theorem SeesP.up {w : World} {B C : Nat} {v : Value} {rs : List RP} (h : SeesP w B v rs) (hb : B ≤ C) : SeesP w C v rs := by
  obtain ⟨a, cap, h1, h2, h3⟩ := h
  exact ⟨a, cap, h1, h2, fun i hi => by obtain ⟨b, off, e1, e2, e3⟩ := h3 i hi; exact ⟨b, off, e1, by omega, e3.up hb⟩⟩
theorem SeesP.form {w : World} {B : Nat} {v : Value} {rs : List RP} (h : SeesP w B v rs) : ∃ a cap, v = .slice a rs.length cap := by
  obtain ⟨a, cap, e, _⟩ := h
  exact ⟨a, cap, e⟩
theorem SeesP.cell {w : World} {B n cap : Nat} {a : Option Addr} {rs : List RP} (h : SeesP w B (.slice a n cap) rs) (i : Nat) (hi : i < rs.length) : ∃ b off, a = some ⟨b, off, none⟩ ∧ b < B ∧ RpAt w B b (off + i * 11) rs[i] := by
  obtain ⟨ao, cap', e, h1, h3⟩ := h
  injection e with e1 e2 e3
  subst e1
  exact h3 i hi
set_option maxHeartbeats 8000000 in
theorem PrintT (v : Value) (rs : List RP) (B0 : Nat) (w : World) (hB0 : B0 ≤ w.heap.size) (hv : SeesP w B0 v rs) (hn : rs.length ≤ 1048576) (hr : ∀ i (h : i < rs.length), ROK rs[i]) (hlen : (printL rs).length ≤ 70368744177664) (hg : GW w) :
    Calls Tryd.prog 5 #[v] w fun e w' => e = .returned (.string (tx (printL rs))) ∧ Below w.heap.size w w' := by
  obtain ⟨a, cap, rfl⟩ := hv.form
  have HV : Hid (SeesP w w.heap.size (.slice a rs.length cap) rs) := hv.up hB0
  have HR : Hid (∀ i (h : i < rs.length), ROK rs[i]) := hr
  have HL : Hid ((printL rs).length ≤ 70368744177664) := hlen
  have HG : Hid (GW w) := hg
  have HB : Hid (Bl (w.alloc (.cells #[.pointer none, .slice none 0 0] 46)) w.heap.size w.heap.size []) := .inl (Lib.BuilderAtF.of ⟨Nat.le_refl _, .slice none 0 0, heap_new _ _, World.ownsRow_nil _ _ _ _, by intro h; cases h⟩)
  have HA : Hid (Below w.heap.size w (w.alloc (.cells #[.pointer none, .slice none 0 0] 46))) := (Below.refl _ _).alloc (Nat.le_refl _) _
  clear hv hr hlen hg
  go_enter Tryd.func5, Tryd.ntmps5
  go_wp2
  generalize w.alloc (.cells #[.pointer none, .slice none 0 0] 46) = W0 at *
  go_loopw [5, 8] (fun _ x wr => ∃ k : Nat, k ≤ rs.length ∧ x = .int .i64 (k : Int) ∧ Bl wr w.heap.size w.heap.size (printL (rs.take k)) ∧ Below w.heap.size w wr) (fun _ x _ => rs.length - (intOf x).toNat)
  case atStart => exact ⟨0, by omega, rfl, HB.out, HA.out⟩
  case round =>
    obtain ⟨k, hk, rfl, hbl, hb⟩ := hrel
    have HBl : Hid (Bl wr w.heap.size w.heap.size (printL (rs.take k))) := hbl
    have HBw : Hid (Below w.heap.size w wr) := hb
    clear hbl hb HB HA
    by_cases hkl : k < rs.length
    · have hki : (k : Int) < (rs.length : Int) := by omega
      have HNX : Hid (printL (rs.take k) ++ repL rs[k] = printL (rs.take (k + 1))) := by
        show printL (rs.take k) ++ repL rs[k] = printL (rs.take (k + 1))
        unfold printL
        rw [flat_take _ _ _ hkl]
      have hlk : (printL (rs.take k)).length + (repL rs[k]).length ≤ 70368744177664 := by
        have h1 := flat_take_le repL rs (k + 1)
        have h2 : printL (rs.take (k + 1)) = (rs.take (k + 1)).flatMap repL := rfl
        rw [← h2, ← HNX.out, List.length_append] at h1
        exact Nat.le_trans h1 HL.out
      obtain ⟨bb, off, rfl, hbb, hrp⟩ := (HV.out.later HBw.out).cell k hkl
      obtain ⟨na, nc, ra, rc, ma, mc, hri⟩ := hrp
      have hrk := HR.out k hkl
      generalize rs[k] = r at *
      have HA2 : Hid (Below wr.heap.size wr (wr.alloc (.cells #[.int .i64 r.cmd, .int .i64 r.kind, .int .i64 r.who, .int .i64 r.code, .int .i64 r.rcode, .slice na r.names.length nc, .slice ra r.rows.length rc, .int .i64 r.count, .int .u64 r.stamp, .int .i64 r.fin, .slice ma r.nums.length mc] 32))) := (Below.refl _ _).alloc (Nat.le_refl _) _
      have hsz := HBw.out.size
      have HPT : Hid (∀ _ : Unit, _) := fun _ => printT r na nc ra rc ma mc w.heap.size w.heap.size (printL (rs.take k)) (wr.alloc (.cells #[.int .i64 r.cmd, .int .i64 r.kind, .int .i64 r.who, .int .i64 r.code, .int .i64 r.rcode, .slice na r.names.length nc, .slice ra r.rows.length rc, .int .i64 r.count, .int .u64 r.stamp, .int .i64 r.fin, .slice ma r.nums.length mc] 32)) (by have := HA2.out.size; omega) HG.out.few hrk (HBl.out.next HA2.out) (hri.names.later (HA2.out.mono hsz)) (hri.rows.later (HA2.out.mono hsz)) (hri.nums.later (HA2.out.mono hsz)) hlk (HG.out.later (HBw.out.trans (HA2.out.mono hsz)) HG.out.few)
      obtain ⟨c0, c1, c2, c3, c4, c5, c6, c7, c8, c9, c10, _, _, _⟩ := hri
      generalize printL (rs.take k) = L at *
      clear hlk hrk
      go_wp2_with fail
      refine (HPT.out ()).mono ?_
      rintro e w2 ⟨rfl, hbl2, hb2⟩
      have HBl2 : Hid (Bl w2 w.heap.size w.heap.size (L ++ repL r)) := hbl2
      rw [HNX.out] at HBl2
      have HBw2 : Hid (Below w.heap.size w w2) := (HBw.out.trans (HA2.out.mono hsz)).trans hb2
      clear hbl2 hb2
      go_wp2
      go_roundw
      case rel => exact ⟨k + 1, by omega, by go_num, HBl2.out, HBw2.out⟩
      case measure => simp [intOf]; omega
    · have hki : ¬ (k : Int) < (rs.length : Int) := by omega
      have hke : k = rs.length := by omega
      have HBk : Hid (Bl wr w.heap.size w.heap.size (printL rs)) := by
        have := HBl.out
        rw [hke, List.take_length] at this
        exact this
      have HST : Hid (∀ _ : Unit, _) := fun _ => stringT w.heap.size w.heap.size (printL rs) wr HBk.out (HBw.out.size)
      clear hke
      go_wp2_with fail
      refine (HST.out ()).mono ?_
      rintro e w2 ⟨rfl, hb2⟩
      have HBw2 : Hid (Below w.heap.size w w2) := HBw.out.trans hb2
      clear hb2
      go_wp2
      go_ret
      exact ⟨rfl, HBw2.out⟩
end Go.Proofs.YtoomekcglniohaaDoor
