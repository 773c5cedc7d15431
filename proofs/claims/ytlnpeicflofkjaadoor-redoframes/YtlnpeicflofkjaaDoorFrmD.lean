import Derived.Test.YtlnpeicflofkjaaDoorFrmE
namespace Go.Proofs.YtlnpeicflofkjaaDoor
open Go.ChangeShapes Go.WideShapes Go.ChangeAt Go.RowKit
set_option linter.unusedVariables false
set_option maxRecDepth 100000
theorem ret_frameT {fn : Func} {p u v : Tmp} (h : fn.results = #[.cell p 27, .tmp u, .tmp v]) (tmps : Array Value) (w : World) (k l : Int) (t : ByteArray) (g : Nat) (hp : tmps.getD p undef = .pointer (some ⟨g, 0, none⟩))
    (hg : Fr3 w g (.int .i64 k) (.int .u64 l) (.string t)) :
    (results fn tmps).run Tryd.prog w = .ok (.tuple #[.agg #[.int .i64 k, .int .u64 l, .string t], tmps.getD u undef, tmps.getD v undef]) w := by
  have hp' : tmps[p]?.getD undef = .pointer (some ⟨g, 0, none⟩) := by simpa using hp
  have q0 := hg.c0
  have q1 := hg.c1
  have q2 := hg.c2
  simp [results, h, hp', asAddr, go_sem, q0, q1, q2]
/-- The pieces that the document's reading looks at, and those of the text from the offset on. -/
theorem cut_head (s : ByteArray) (p : Nat) (h : p + 24 ≤ s.size) : (∀ q n, q + n ≤ 24 → fxV (s.extract p (p + 24)) q n = fxV (s.extract p s.size) q n) ∧ (∀ n, n ≤ 24 → (s.extract p (p + 24)).extract 0 n = (s.extract p s.size).extract 0 n) ∧ (∀ i, i < 24 → bAt (s.extract p (p + 24)) i = bAt (s.extract p s.size) i) ∧ (∀ n, p + 24 + n ≤ s.size → s.extract (p + 24) (p + 24 + n) = (s.extract p s.size).extract 24 (24 + n)) := by
  have hb : ∀ i, i < 24 → bAt (s.extract p (p + 24)) i = bAt (s.extract p s.size) i := fun i hi => by
    rw [bAt_ext s p (p + 24) i h (by omega), bAt_ext s p s.size i (Nat.le_refl _) (by omega)]
  have z1 : (s.extract p (p + 24)).size = 24 := by rw [ByteArray.size_extract]; omega
  have z2 : (s.extract p s.size).size = s.size - p := by rw [ByteArray.size_extract]; omega
  refine ⟨fun q n hq => fxV_congr _ _ q n (fun i hi => hb _ (by omega)), fun n hn => ext_bAt _ _ 0 n (by omega) (by omega) (fun i _ hi => hb i (by omega)), hb, fun n hn => ?_⟩
  apply ByteArray.ext_getElem
  · rw [ByteArray.size_extract, ByteArray.size_extract]; omega
  · intro i h1 h2
    have hi : i < n := by rw [ByteArray.size_extract] at h1; omega
    have e1 : ((s.extract (p + 24) (p + 24 + n))[i]'h1).toNat = bAt s (p + 24 + i) := (bAt_of _ _ h1).symm.trans (bAt_ext s (p + 24) (p + 24 + n) i hn (by omega))
    have e2 : (((s.extract p s.size).extract 24 (24 + n))[i]'h2).toNat = bAt s (p + (24 + i)) := (bAt_of _ _ h2).symm.trans ((bAt_ext (s.extract p s.size) 24 (24 + n) i (by omega) (by omega)).trans (bAt_ext s p s.size (24 + i) (Nat.le_refl _) (by omega)))
    exact UInt8.toNat_inj.1 (e1.trans ((congrArg (bAt s) (by omega)).trans e2.symm))
theorem dcV_out {s : ByteArray} {p : Int} (h : ¬ (0 ≤ p ∧ p ≤ s.size)) : dcV s p = (zeroF, p, 1) := by unfold dcV; rw [if_neg h]
theorem dcV_in {s : ByteArray} {p : Nat} (h : p ≤ s.size) : dcV s p = if dfE (s.extract p s.size) = 0 then (frV (s.extract p s.size), (p : Int) + 24 + (fxV (s.extract p s.size) 4 4 : Nat), 0) else (zeroF, (p : Int), dfE (s.extract p s.size)) := by
  unfold dcV
  rw [if_pos ⟨by omega, by omega⟩, Int.toNat_natCast]
end Go.Proofs.YtlnpeicflofkjaaDoor
