import Derived.Test.YtlnpeicflofkjaaRedE2
import Derived.Test.YtlnpeicflofkjaaRedR2
import Derived.Test.YtlnpeicflofkjaaOpenW
namespace Go.Proofs.Ytlnpeicflofkjaa
open Go.ChangeShapes Go.WideShapes Go.ChangeAt Go.RowKit
set_option linter.unusedVariables false
set_option maxRecDepth 100000
theorem numR_any (n : Int) (w : World) : Calls Try.prog 9 #[.int .i64 n] w fun e w' => e = .returned (.int .i64 n) ∧ w' = w := by
  go_enter Try.func9, Try.ntmps9
  go_wp2
  go_ret
  exact ⟨rfl, rfl⟩
/-- Two commits in their blocks: what came in, and its twin. -/
structure Tw (w0 W : World) (n g : Nat) (s : Int) (v u : Value) (vs : List W3) : Prop where
  zn : n < W.heap.size
  zg : g < W.heap.size
  a0 : W.cell? ⟨n, 0, none⟩ = some (.int .u64 s)
  a1 : W.cell? ⟨n, 1, none⟩ = some v
  b0 : W.cell? ⟨g, 0, none⟩ = some (.int .u64 s)
  b1 : W.cell? ⟨g, 1, none⟩ = some u
  sv : SeesW W W.heap.size v vs
  su : SeesW W W.heap.size u vs
  bel : Below w0.heap.size w0 W
theorem Tw.step {w0 W W' : World} {n g : Nat} {s : Int} {v u : Value} {vs : List W3} (h : Tw w0 W n g s v u vs) (hb : Below W.heap.size W W') : Tw w0 W' n g s v u vs :=
  ⟨Nat.lt_of_lt_of_le h.zn hb.size, Nat.lt_of_lt_of_le h.zg hb.size, (hb.cell (p := ⟨n, 0, none⟩) h.zn).trans h.a0, (hb.cell (p := ⟨n, 1, none⟩) h.zn).trans h.a1, (hb.cell (p := ⟨g, 0, none⟩) h.zg).trans h.b0, (hb.cell (p := ⟨g, 1, none⟩) h.zg).trans h.b1, (h.sv.later hb).mono hb.size, (h.su.later hb).mono hb.size, h.bel.trans (hb.mono h.bel.size)⟩
set_option maxHeartbeats 3200000 in
theorem writes_walk (s : Int) (v : Value) (vs : List W3) (w : World) (hv : SeesW w w.heap.size v vs) (hl : (vs.length + 1) * 40 ≤ 140737488355328) :
    Calls Try.prog 4 #[.agg #[.int .u64 s, v]] w fun e w' => e = .returned (.bool true) ∧ Below w.heap.size w w' := by
  have h47 : vs.length ≤ 140737488355328 := by omega
  have HO : Hid (Calls Try.prog 6 #[.agg #[.int .u64 s, v]] (box1 w s v) fun e w' => ∃ v', e = .returned (.agg #[.int .u64 s, v']) ∧ ownW w' (box1 w s v).heap.size v' vs ∧ Below (box1 w s v).heap.size (box1 w s v) w') :=
    own_any s v vs w.heap.size (box1 w s v) (box1_below _ _ _).size (hv.later (box1_below _ _ _)) hl
  have HV : Hid (∀ _ : Unit, SeesW w w.heap.size v vs) := fun _ => hv
  obtain ⟨ao, cap, rfl, hl1, hc1, hs1⟩ := hv
  clear hs1 hl1 hc1 hl
  have HB0 : Hid (Below w.heap.size w (box1 w s (.slice ao vs.length cap))) := box1_below _ _ _
  have HZ0 : Hid ((box1 w s (.slice ao vs.length cap)).heap.size = w.heap.size + 1) := box1_size _ _ _
  have HC0 : Hid ((box1 w s (.slice ao vs.length cap)).cell? ⟨w.heap.size, 0, none⟩ = some (.int .u64 s) ∧ (box1 w s (.slice ao vs.length cap)).cell? ⟨w.heap.size, 1, none⟩ = some (.slice ao vs.length cap)) := ⟨box1_0 _ _ _, box1_1 _ _ _⟩
  have HR : Hid (∀ W u, SeesW W W.heap.size u vs → Calls Try.prog 7 #[.agg #[.int .u64 s, u]] W fun e w' => e = .returned (.tuple #[.string (encR s vs).1, .int .i64 (encR s vs).2]) ∧ Below W.heap.size W w') := fun W u h => encode_any s u vs W.heap.size W (Nat.le_refl _) h
  have HQ : Hid (∀ W u, SeesW W W.heap.size u vs → Calls Try.prog 8 #[.agg #[.int .u64 s, u]] W fun e w' => e = .returned (.tuple #[.string (encR s vs).1, .int .i64 (encR s vs).2]) ∧ Below W.heap.size W w') := fun W u h => refEncode_any s u vs W.heap.size W (Nat.le_refl _) h
  generalize (encR s vs).1 = t at *
  generalize (encR s vs).2 = c at *
  have HS : Hid (∀ W u v, SeesW W W.heap.size u vs → SeesW W W.heap.size v vs → Calls Try.prog 10 #[.agg #[.int .u64 s, u], .agg #[.int .u64 s, v]] W fun e w' => e = .returned (.bool true) ∧ Below W.heap.size W w') := fun W u v h1 h2 => (sameC_any s s u v vs vs W.heap.size W (Nat.le_refl _) h1 h2).mono fun e w' ⟨he, hb⟩ => ⟨by rw [he]; simp, hb⟩
  go_enter Try.func4, Try.ntmps4
  go_wp2_with fail
  refine HO.out.mono ?_
  rintro e w1 ⟨u, rfl, ho, hb⟩
  have hu := ho.seesAll h47
  obtain ⟨sp, nn, cp, rfl⟩ := ho.isSlice
  have HT : Hid (Tw w (w1.alloc (.cells #[.int .u64 s, .slice sp nn cp] 25)) w.heap.size w1.heap.size s (.slice ao vs.length cap) (.slice sp nn cp) vs) := by
    have hz := hb.size
    rw [HZ0.out] at hz
    have hb1 : Below w.heap.size w w1 := HB0.out.trans (hb.mono (by rw [HZ0.out]; omega))
    have hbA : Below w1.heap.size w1 (w1.alloc (.cells #[.int .u64 s, .slice sp nn cp] 25)) := (Below.refl _ _).alloc (Nat.le_refl _) _
    have hn : w.heap.size < w1.heap.size := by omega
    refine ⟨by rw [sizeAl]; omega, by rw [sizeAl]; omega, (hbA.cell (p := ⟨w.heap.size, 0, none⟩) hn).trans ((hb.cell (p := ⟨w.heap.size, 0, none⟩) (by rw [HZ0.out]; exact Nat.lt_succ_self _)).trans HC0.out.1), (hbA.cell (p := ⟨w.heap.size, 1, none⟩) hn).trans ((hb.cell (p := ⟨w.heap.size, 1, none⟩) (by rw [HZ0.out]; exact Nat.lt_succ_self _)).trans HC0.out.2), (cellWH (heap_alloc_new _ _) 0).trans rfl, (cellWH (heap_alloc_new _ _) 1).trans rfl, ?_, (hu.later hbA).mono hbA.size, hb1.trans (hbA.mono hb1.size)⟩
    exact ((HV.out ()).later (hb1.trans (hbA.mono hb1.size))).mono (Nat.le_trans hb1.size hbA.size)
  clear ho hb hu HO
  go_wp2_with fail
  generalize w1.alloc (.cells #[.int .u64 s, .slice sp nn cp] 25) = W2 at *
  generalize w1.heap.size = g at *
  refine (HR.out _ _ HT.out.su).mono ?_
  rintro e w3 ⟨rfl, hb⟩
  have HT3 : Hid (Tw w w3 w.heap.size g s (.slice ao vs.length cap) (.slice sp nn cp) vs) := HT.out.step hb
  have a0 := HT3.out.a0
  have a1 := HT3.out.a1
  clear hb HT
  go_wp2_with fail
  clear a0 a1
  refine (HQ.out _ _ HT3.out.sv).mono ?_
  rintro e w4 ⟨rfl, hb⟩
  have HT4 : Hid (Tw w w4 w.heap.size g s (.slice ao vs.length cap) (.slice sp nn cp) vs) := HT3.out.step hb
  have a0 := HT4.out.a0
  have a1 := HT4.out.a1
  have b0 := HT4.out.b0
  have b1 := HT4.out.b1
  clear hb HT3
  go_wp2_with fail
  clear a0 a1 b0 b1
  refine (HS.out _ _ _ HT4.out.su HT4.out.sv).mono ?_
  rintro e w5 ⟨rfl, hb⟩
  have HB5 : Hid (Below w.heap.size w w5) := (HT4.out.step hb).bel
  clear hb HT4
  go_wp2_with fail
  refine (numR_any _ _).mono ?_
  rintro e w6 ⟨rfl, rfl⟩
  go_wp2
  go_ret
  exact ⟨rfl, HB5.out⟩
theorem writes_open (s : Int) (a : Option Addr) (len cap : Nat) (W : World) (hv : len ≤ 140737488355328 → ∃ vs : List W3, vs.length = len ∧ SeesW W W.heap.size (.slice a len cap) vs ∧ ∀ v ∈ vs, (Lit.int .i64 v.1).wf = true) (room : len * 40 ≤ reachBytes) :
    Calls Try.prog 4 #[.agg #[.int .u64 s, .slice a len cap]] W fun e w' => e = .returned (.bool true) ∧ Below W.heap.size W w' := by
  unfold reachBytes at room
  obtain ⟨vs, rfl, hs, _⟩ := hv (by omega)
  exact writes_walk s _ vs W hs (by omega)
end Go.Proofs.Ytlnpeicflofkjaa
