import Derived.Test.YtppfgcdfmdmffaaSchP5
namespace Go.Proofs.Ytppfgcdfmdmffaa
open Go.ChangeShapes Go.WideShapes Go.ChangeAt Go.RowKit
set_option linter.unusedVariables false

theorem ownP.lt {w : World} {B : Nat} {v : Value} {xs : List (Int × Int × Int)} (h : ownP w B v xs) (k : Nat) (hk : v.ownBlock = some k) : B ≤ k ∧ k < w.heap.size := World.ownsRow.lt h k hk
/-- The lists that the law holds while it goes on: each in memory of its own, from its own bound on. -/
structure StD (w0 : World) (B1 B2 B3 B4 : Nat) (tw ot b d : Value) (vs us : List (Int × Int × Int)) (W : World) : Prop where
  bel : Below w0.heap.size w0 W
  t : ownP W B1 tw vs
  o : ownP W B2 ot us
  b : ownP W B3 b vs
  d : ownP W B4 d us
  z : B4 ≤ W.heap.size
theorem StD.step {w0 : World} {B1 B2 B3 B4 : Nat} {tw ot b d : Value} {vs us : List (Int × Int × Int)} {W W' : World} (h : StD w0 B1 B2 B3 B4 tw ot b d vs us W) (hb : Below W.heap.size W W') : StD w0 B1 B2 B3 B4 tw ot b d vs us W' :=
  ⟨h.bel.trans (hb.mono h.bel.size), h.t.same fun k hk _ => hb.block k hk, h.o.same fun k hk _ => hb.block k hk, h.b.same fun k hk _ => hb.block k hk, h.d.same fun k hk _ => hb.block k hk, Nat.le_trans h.z hb.size⟩
/-- The same once twice is given up. -/
structure StE (w0 : World) (B2 B3 B4 : Nat) (ot b d : Value) (vs us : List (Int × Int × Int)) (W : World) : Prop where
  bel : Below w0.heap.size w0 W
  o : ownP W B2 ot us
  b : ownP W B3 b vs
  d : ownP W B4 d us
theorem StE.step {w0 : World} {B2 B3 B4 : Nat} {ot b d : Value} {vs us : List (Int × Int × Int)} {W W' : World} (h : StE w0 B2 B3 B4 ot b d vs us W) (hb : Below W.heap.size W W') : StE w0 B2 B3 B4 ot b d vs us W' :=
  ⟨h.bel.trans (hb.mono h.bel.size), h.o.same fun k hk _ => hb.block k hk, h.b.same fun k hk _ => hb.block k hk, h.d.same fun k hk _ => hb.block k hk⟩
theorem same_two {B B' : Nat} {a b : Value} {vs : List (Int × Int × Int)} {W : World} (ha : ownP W B a vs) (hb : ownP W B' b vs) (hl : vs.length ≤ 140737488355328) :
    Calls Try.prog 9 #[a, b] W fun e w' => e = .returned (.bool true) ∧ Below W.heap.size W w' :=
  (samePicks_any a b vs vs W.heap.size W (Nat.le_refl _) (ha.seesAll hl) (hb.seesAll hl)).mono fun e w' ⟨he, hb⟩ => ⟨by rw [he, decide_eq_true rfl], hb⟩
set_option maxRecDepth 100000 in
set_option maxHeartbeats 6400000 in
theorem decodes_walk (s : ByteArray) (w : World) (hs : s.size ≤ 1048576) :
    Calls Try.prog 4 #[.string s] w fun e w' => e = .returned (.bool true) ∧ Below w.heap.size w w' := by
  have hz2 : ((⟨#[1]⟩ : ByteArray) ++ s).size = s.size + 1 := by rw [ByteArray.size_append]; show 1 + s.size = _; omega
  have D1 : Hid (∀ W, Calls Try.prog 7 #[.string s] W fun e w' => ∃ v, e = .returned v ∧ ownP w' W.heap.size v (dL s.data.toList) ∧ Below W.heap.size W w') := fun W => decode_any s W (by omega)
  have D2 : Hid (∀ W, Calls Try.prog 10 #[.string s] W fun e w' => ∃ v, e = .returned v ∧ ownP w' W.heap.size v (dL s.data.toList) ∧ Below W.heap.size W w') := fun W => refDecode s W (by omega)
  have D3 : Hid (∀ W, Calls Try.prog 7 #[.string ((⟨#[1]⟩ : ByteArray) ++ s)] W fun e w' => ∃ v, e = .returned v ∧ ownP w' W.heap.size v (dL ((⟨#[1]⟩ : ByteArray) ++ s).data.toList) ∧ Below W.heap.size W w') := fun W => decode_any _ W (by omega)
  have D4 : Hid (∀ W, Calls Try.prog 10 #[.string ((⟨#[1]⟩ : ByteArray) ++ s)] W fun e w' => ∃ v, e = .returned v ∧ ownP w' W.heap.size v (dL ((⟨#[1]⟩ : ByteArray) ++ s).data.toList) ∧ Below W.heap.size W w') := fun W => refDecode _ W (by omega)
  have hl1 := (dL_len _ s.data.toList (Nat.le_refl _)).1
  have hl2 := (dL_len _ ((⟨#[1]⟩ : ByteArray) ++ s).data.toList (Nat.le_refl _)).1
  rw [len_list] at hl1 hl2
  generalize dL s.data.toList = vs at *
  generalize dL ((⟨#[1]⟩ : ByteArray) ++ s).data.toList = us at *
  rw [hz2] at hl2
  have HL : Hid (vs.length ≤ 1048577 ∧ us.length ≤ 1048577) := ⟨by omega, by omega⟩
  clear hl1 hl2 hz2
  go_enter Try.func4, Try.ntmps4
  go_wp2_with fail
  refine (D1.out w).mono ?_
  rintro e w1 ⟨a, rfl, oa, ba⟩
  have HA1 : Hid (ownP w1 w.heap.size a vs) := oa
  have HB1 : Hid (Below w.heap.size w w1) := ba
  clear oa ba
  go_wp2_with fail
  refine (D1.out w1).mono ?_
  rintro e w2 ⟨tw, rfl, ot, bt⟩
  have HT2 : Hid (ownP w2 w1.heap.size tw vs) := ot
  have HB2 : Hid (Below w1.heap.size w1 w2) := bt
  clear ot bt
  go_wp2_with fail
  refine (D3.out w2).mono ?_
  rintro e w3 ⟨ot, rfl, oo, bo⟩
  have HO3 : Hid (ownP w3 w2.heap.size ot us) := oo
  have HB3 : Hid (Below w2.heap.size w2 w3) := bo
  clear oo bo D3
  go_wp2_with fail
  refine (D2.out w3).mono ?_
  rintro e w4 ⟨b, rfl, ob, bb⟩
  have HO4 : Hid (ownP w4 w3.heap.size b vs) := ob
  have HB4 : Hid (Below w3.heap.size w3 w4) := bb
  clear ob bb D2
  go_wp2_with fail
  refine (D4.out w4).mono ?_
  rintro e w5 ⟨d, rfl, od, bd⟩
  have HA : Hid (ownP w5 w.heap.size a vs ∧ (∀ k, a.ownBlock = some k → k < w1.heap.size) ∧ (∀ k, tw.ownBlock = some k → k < w2.heap.size) ∧ w1.heap.size ≤ w2.heap.size ∧ w2.heap.size ≤ w3.heap.size ∧ w3.heap.size ≤ w4.heap.size ∧ w.heap.size ≤ w1.heap.size) := by
    refine ⟨?_, fun k hk => (HA1.out.lt k hk).2, fun k hk => (HT2.out.lt k hk).2, HB2.out.size, HB3.out.size, HB4.out.size, HB1.out.size⟩
    exact (((HA1.out.same fun k hk _ => HB2.out.block k hk).same fun k hk _ => HB3.out.block k hk).same fun k hk _ => HB4.out.block k hk).same fun k hk _ => bd.block k hk
  have ST : Hid (StD w w1.heap.size w2.heap.size w3.heap.size w4.heap.size tw ot b d vs us w5) := by
    refine ⟨?_, ?_, ?_, ?_, od, bd.size⟩
    · exact (((HB1.out.trans (HB2.out.mono HB1.out.size)).trans (HB3.out.mono (Nat.le_trans HB1.out.size HB2.out.size))).trans (HB4.out.mono (Nat.le_trans (Nat.le_trans HB1.out.size HB2.out.size) HB3.out.size))).trans (bd.mono (Nat.le_trans (Nat.le_trans (Nat.le_trans HB1.out.size HB2.out.size) HB3.out.size) HB4.out.size))
    · exact ((HT2.out.same fun k hk _ => HB3.out.block k hk).same fun k hk _ => HB4.out.block k hk).same fun k hk _ => bd.block k hk
    · exact (HO3.out.same fun k hk _ => HB4.out.block k hk).same fun k hk _ => bd.block k hk
    · exact HO4.out.same fun k hk _ => bd.block k hk
  clear od bd HA1 HB1 HT2 HB2 HO3 HB3 HO4 HB4 D4
  generalize w1.heap.size = B1 at *
  generalize w2.heap.size = B2 at *
  generalize w3.heap.size = B3 at *
  generalize w4.heap.size = B4 at *
  go_wp2_with fail
  refine (same_two HA.out.1 ST.out.b (Nat.le_trans HL.out.1 (by omega))).mono ?_
  rintro e w6 ⟨rfl, h6⟩
  have ST6 : Hid (StD w B1 B2 B3 B4 tw ot b d vs us w6) := ST.out.step h6
  have HA6 : Hid (ownP w6 w.heap.size a vs) := HA.out.1.same fun k hk _ => h6.block k hk
  clear h6 ST
  go_wp2_with fail
  refine (same_two ST6.out.t ST6.out.b (Nat.le_trans HL.out.1 (by omega))).mono ?_
  rintro e w7 ⟨rfl, h7⟩
  have ST7 : Hid (StD w B1 B2 B3 B4 tw ot b d vs us w7) := ST6.out.step h7
  have HA7 : Hid (ownP w7 w.heap.size a vs) := HA6.out.same fun k hk _ => h7.block k hk
  clear h7 ST6 HA6
  go_wp2_with fail
  refine (same_two ST7.out.o ST7.out.d (Nat.le_trans HL.out.2 (by omega))).mono ?_
  rintro e w8 ⟨rfl, h8⟩
  have ST8 : Hid (StD w B1 B2 B3 B4 tw ot b d vs us w8) := ST7.out.step h8
  have HA8 : Hid (ownP w8 w.heap.size a vs) := HA7.out.same fun k hk _ => h8.block k hk
  clear h8 ST7 HA7
  go_wp2_with fail
  refine (picked_any a vs w.heap.size w8 ST8.out.bel.size HA8.out (Nat.le_trans HL.out.1 (by omega))).mono ?_
  rintro e w9 ⟨rfl, h9, g9⟩
  have ST9 : Hid (StD w B1 B2 B3 B4 tw ot b d vs us w9) := by
    obtain ⟨_, ha, _, l1, l2, l3, _⟩ := HA.out
    have key : ∀ k, k < w8.heap.size → B1 ≤ k → w9.heap[k]? = w8.heap[k]? := fun k hk hB => g9 k hk (fun e => by have := ha k e.symm; omega)
    exact ⟨ST8.out.bel.trans h9, ST8.out.t.same key, ST8.out.o.same fun k hk hb => key k hk (by omega), ST8.out.b.same fun k hk hb => key k hk (by omega), ST8.out.d.same fun k hk hb => key k hk (by omega), Nat.le_trans ST8.out.z h9.size⟩
  clear h9 g9 ST8 HA8
  go_wp2_with fail
  refine (same_two ST9.out.t ST9.out.b (Nat.le_trans HL.out.1 (by omega))).mono ?_
  rintro e w10 ⟨rfl, h⟩
  have ST10 : Hid (StD w B1 B2 B3 B4 tw ot b d vs us w10) := ST9.out.step h
  clear h ST9
  go_wp2_with fail
  refine (same_two ST10.out.o ST10.out.d (Nat.le_trans HL.out.2 (by omega))).mono ?_
  rintro e w11 ⟨rfl, h⟩
  have ST11 : Hid (StD w B1 B2 B3 B4 tw ot b d vs us w11) := ST10.out.step h
  clear h ST10
  go_wp2_with fail
  refine (picked_any tw vs B1 w11 (by obtain ⟨_, _, _, l1, l2, l3, _⟩ := HA.out; have := ST11.out.z; omega) ST11.out.t (Nat.le_trans HL.out.1 (by omega))).mono ?_
  rintro e w12 ⟨rfl, h9, g9⟩
  have SE12 : Hid (StE w B2 B3 B4 ot b d vs us w12) := by
    obtain ⟨_, _, ht, l1, l2, l3, l0⟩ := HA.out
    have key : ∀ k, k < w11.heap.size → B2 ≤ k → w12.heap[k]? = w11.heap[k]? := fun k hk hB => g9 k hk (fun e => by have := ht k e.symm; omega)
    exact ⟨ST11.out.bel.trans (h9.mono l0), ST11.out.o.same key, ST11.out.b.same fun k hk hb => key k hk (by omega), ST11.out.d.same fun k hk hb => key k hk (by omega)⟩
  clear h9 g9 ST11 HA
  go_wp2_with fail
  refine (D1.out w12).mono ?_
  rintro e w13 ⟨c, rfl, oc, bc⟩
  have HC13 : Hid (ownP w13 w12.heap.size c vs) := oc
  have SE13 : Hid (StE w B2 B3 B4 ot b d vs us w13) := SE12.out.step bc
  clear oc bc SE12 D1
  go_wp2_with fail
  refine (same_two SE13.out.o SE13.out.d (Nat.le_trans HL.out.2 (by omega))).mono ?_
  rintro e w14 ⟨rfl, h⟩
  have SE14 : Hid (StE w B2 B3 B4 ot b d vs us w14) := SE13.out.step h
  have HC14 : Hid (ownP w14 w12.heap.size c vs) := HC13.out.same fun k hk _ => h.block k hk
  clear h SE13 HC13
  go_wp2_with fail
  refine (same_two HC14.out SE14.out.b (Nat.le_trans HL.out.1 (by omega))).mono ?_
  rintro e w15 ⟨rfl, h⟩
  have SE15 : Hid (StE w B2 B3 B4 ot b d vs us w15) := SE14.out.step h
  clear h SE14 HC14
  go_wp2
  go_ret
  exact ⟨rfl, SE15.out.bel⟩
end Go.Proofs.Ytppfgcdfmdmffaa
