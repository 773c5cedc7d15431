import Derived.Test.YtjceellpmopnkaaDoorMd9
import Derived.Test.YtjceellpmopnkaaDoorMd6
import Derived.Test.YtjceellpmopnkaaDoorMf7
import Derived.Laws.StructEq
import Derived.Laws.AppendOwnNone
namespace Go.Proofs.YtjceellpmopnkaaDoor
open Go.ChangeShapes Go.WideShapes Go.ChangeAt Go.RowKit
set_option linter.unusedVariables false
set_option maxRecDepth 100000
theorem num_any (c : Int) (w : World) (h0 : 0 ≤ c) (h1 : c ≤ 1000) : Calls Tryd.prog 7 #[.int .i64 c] w fun e w' => e = .returned (.int .i64 c) ∧ w' = w := by
  go_enter Tryd.func7, Tryd.ntmps7
  go_wp2
  go_ret
  exact ⟨rfl, rfl⟩
theorem MoYes.one {b : ByteArray} {g n u g' n' u' : Int} {ps ps' : List PN} (h : MoYes b g n u ps) (k : MoYes b g' n' u' ps') : g = g' ∧ n = n' ∧ u = u' ∧ ps = ps' := by
  have := h.2.1.symm.trans k.2.1
  injection this with this
  injection this with ha hd
  injection ha with ha hb
  injection hb with hb hc
  exact ⟨ha, hb, hc, hd⟩
theorem MoYes.no {b : ByteArray} {g n u : Int} {ps : List PN} (h : MoYes b g n u ps) {c : Int} (k : MoNo b c) : False := by
  rcases k with ⟨k1, _⟩ | ⟨_, _, k3⟩
  · exact k1 h.1
  · exact k3 _ _ _ _ h.2.1 h.2.2.1
/-- What both readings of a file answer. -/
def RdA (w : World) (gen next upto : Int) (ps : List PN) (c : Int) (e : Ending) (w' : World) : Prop := Below w.heap.size w w' ∧ ∃ v, e = .returned (.tuple #[.agg #[.int .i64 gen, .int .i64 next, .int .u64 upto, v], .int .i64 c]) ∧ ownP w' w.heap.size v ps
theorem opE_bound (b mg : ByteArray) : 0 ≤ opE b mg ∧ opE b mg ≤ 124 := by
  unfold opE
  split
  · omega
  · split
    · omega
    · split <;> omega
theorem dec_both (b : ByteArray) (hs : b.size ≤ 1125899906842624) : ∃ gen next upto ps c, 0 ≤ c ∧ c ≤ 1000 ∧ ps.length ≤ 256 ∧ (∀ w, HalfAt w → Calls Tryd.prog 9 #[.string b] w (RdA w gen next upto ps c)) ∧ (∀ w, Calls Tryd.prog 10 #[.string b] w (RdA w gen next upto ps c)) := by
  by_cases hE : ∃ g n u ps, MoYes b g n u ps
  · obtain ⟨g, n, u, ps, hm⟩ := hE
    refine ⟨g, n, u, ps, 0, by omega, by omega, hm.2.2.1.2.2.2.1, fun w hT => (decMan_any w b hs hT).mono ?_, fun w => (refDec_any w b hs True g n u ps (fun _ => hm)).mono ?_⟩
    · rintro e w' ⟨hb, ⟨g', n', u', ps', v, hy, he, ho⟩ | ⟨c, hn, _⟩⟩
      · obtain ⟨rfl, rfl, rfl, rfl⟩ := hm.one hy
        exact ⟨hb, v, he, ho⟩
      · exact (hm.no hn).elim
    · rintro e w' ⟨hb, ⟨g', n', u', ps', v, hy, he, ho⟩ | ⟨hn, _⟩⟩
      · obtain ⟨rfl, rfl, rfl, rfl⟩ := hm.one hy
        exact ⟨hb, v, he, ho⟩
      · exact (hn trivial).elim
  · have ho := opE_bound b mgB
    refine ⟨0, 0, 0, [], if opE b mgB = 0 then 125 else opE b mgB, by split <;> omega, by split <;> omega, by simp, fun w hT => (decMan_any w b hs hT).mono ?_, fun w => (refDec_any w b hs False 0 0 0 [] (fun h => h.elim)).mono ?_⟩
    · rintro e w' ⟨hb, ⟨g', n', u', ps', v, hy, he, ho⟩ | ⟨c, hn, he⟩⟩
      · exact (hE ⟨_, _, _, _, hy⟩).elim
      · refine ⟨hb, .slice none 0 0, ?_, ownP_nil _ _⟩
        rw [he]
        rcases hn with ⟨k1, k2⟩ | ⟨k1, k2, _⟩
        · rw [if_neg k1, k2]
        · rw [if_pos k1, k2]
    · rintro e w' ⟨hb, ⟨g', n', u', ps', v, hy, he, ho⟩ | ⟨_, he⟩⟩
      · exact (hE ⟨_, _, _, _, hy⟩).elim
      · exact ⟨hb, .slice none 0 0, he, ownP_nil _ _⟩
/-- What both encodings answer. -/
theorem enc_both (gen next upto : Int) (ps : List PN) (hw : ∀ p ∈ ps, p.wf) (hu : 0 ≤ upto) : ∃ str c, 0 ≤ c ∧ c ≤ 1000 ∧ (∀ w ao cap, SeesP w w.heap.size ao ps → HalfAt w → Calls Tryd.prog 5 #[.agg #[.int .i64 gen, .int .i64 next, .int .u64 upto, .slice ao ps.length cap]] w fun e w' => e = .returned (.tuple #[.string str, .int .i64 c]) ∧ Below w.heap.size w w') ∧ (∀ w ao cap, SeesP w w.heap.size ao ps → Calls Tryd.prog 6 #[.agg #[.int .i64 gen, .int .i64 next, .int .u64 upto, .slice ao ps.length cap]] w fun e w' => e = .returned (.tuple #[.string str, .int .i64 c]) ∧ Below w.heap.size w w') := by
  by_cases hm : mayM gen next upto ps
  · exact ⟨sealM mgM (encM gen next upto ps), 0, by omega, by omega, fun w ao cap hs hT => (encMan_any w gen next upto ao cap ps hs hw hu hT).mono fun e w' ⟨h1, _, h3⟩ => ⟨h1 hm, h3⟩, fun w ao cap hs => (refEnc_any w gen next upto ao cap ps hs hw hu).mono fun e w' ⟨h1, _, h3⟩ => ⟨h1 hm, h3⟩⟩
  · exact ⟨⟨#[]⟩, 2, by omega, by omega, fun w ao cap hs hT => (encMan_any w gen next upto ao cap ps hs hw hu hT).mono fun e w' ⟨_, h2, h3⟩ => ⟨h2 hm, h3⟩, fun w ao cap hs => (refEnc_any w gen next upto ao cap ps hs hw hu).mono fun e w' ⟨_, h2, h3⟩ => ⟨h2 hm, h3⟩⟩
theorem eqP (a : PN) (w : World) : (Op.equalIn 10000 36 (.agg #[.int .i64 a.id, .int .u64 a.lo, .int .u64 a.hi, .int .i64 a.rows, .int .i64 a.gen, .int .i64 a.gone, .int .u32 a.ds, .int .u32 a.es]) (.agg #[.int .i64 a.id, .int .u64 a.lo, .int .u64 a.hi, .int .i64 a.rows, .int .i64 a.gen, .int .i64 a.gone, .int .u32 a.ds, .int .u32 a.es])).run Tryd.prog w = .ok true w := by
  obtain ⟨a1, a2, a3, a4, a5, a6, a7, a8⟩ := a
  have u3 := Tryd.underlying3
  have u4 := Tryd.underlying22
  have u5 := Tryd.underlying34
  have hS : Tryd.prog.underlying 36 = some (.struct (Tryd.prog.fieldsOf 36)) := by kernel_rfl
  have hp : Tryd.prog.stoodInHeld 36 = false := by kernel_rfl
  rw [show (10000 : Nat) = 9999 + 1 from rfl, run_equalIn_agg w 9999 36 _ _ hS hp]
  simp only [Program.fieldsOf, Tryd.underlying36]
  go_simp
theorem below_drewNP {B : Nat} {w : World} (n : Nat) : Below B w (w.drewN n) := by
  induction n generalizing w with
  | zero => exact Below.refl _ _
  | succ n ih => exact (ih (w := w)).drew
theorem guardP : Tryd.prog.eqGuardType Tryd.prog.depth 36 = false := by kernel_rfl
set_option maxHeartbeats 3200000 in
theorem same_eq (w : World) (gen next upto : Int) (ao bo : Option Addr) (cap cap2 : Nat) (ps : List PN) (ha : SeesP w w.heap.size ao ps) (hb : SeesP w w.heap.size bo ps) (hl : ps.length ≤ 9000000000000) :
    Calls Tryd.prog 8 #[.agg #[.int .i64 gen, .int .i64 next, .int .u64 upto, .slice ao ps.length cap], .agg #[.int .i64 gen, .int .i64 next, .int .u64 upto, .slice bo ps.length cap2]] w fun e w' => e = .returned (.bool true) ∧ Below w.heap.size w w' := by
  have HA : Hid _ := ha
  have HB : Hid _ := hb
  have hgd := guardP
  clear ha hb
  have HX : Hid (∀ A B : Obj, Below w.heap.size w ((w.alloc A).alloc B)) := fun A B => ((Below.refl _ _).alloc (Nat.le_refl _) _).alloc (by simp) _
  go_enter Tryd.func8, Tryd.ntmps8
  go_wp2_with fail
  have HB0 : Hid (Below w.heap.size w ((w.alloc (.cells #[.int .i64 gen, .int .i64 next, .int .u64 upto, .slice ao ps.length cap] 25)).alloc (.cells #[.int .i64 gen, .int .i64 next, .int .u64 upto, .slice bo ps.length cap2] 25))) := HX.out _ _
  have HCa : Hid (((w.alloc (.cells #[.int .i64 gen, .int .i64 next, .int .u64 upto, .slice ao ps.length cap] 25)).alloc (.cells #[.int .i64 gen, .int .i64 next, .int .u64 upto, .slice bo ps.length cap2] 25)).cell? ⟨w.heap.size, 3, none⟩ = some (.slice ao ps.length cap)) := by show _ = _; simp [go_sem]
  have HCb : Hid (((w.alloc (.cells #[.int .i64 gen, .int .i64 next, .int .u64 upto, .slice ao ps.length cap] 25)).alloc (.cells #[.int .i64 gen, .int .i64 next, .int .u64 upto, .slice bo ps.length cap2] 25)).cell? ⟨w.heap.size + 1, 3, none⟩ = some (.slice bo ps.length cap2)) := by show _ = _; simp [go_sem]
  have HSz : Hid (((w.alloc (.cells #[.int .i64 gen, .int .i64 next, .int .u64 upto, .slice ao ps.length cap] 25)).alloc (.cells #[.int .i64 gen, .int .i64 next, .int .u64 upto, .slice bo ps.length cap2] 25)).heap.size = w.heap.size + 2) := by show _ = _; simp
  generalize (w.alloc (.cells #[.int .i64 gen, .int .i64 next, .int .u64 upto, .slice ao ps.length cap] 25)).alloc (.cells #[.int .i64 gen, .int .i64 next, .int .u64 upto, .slice bo ps.length cap2] 25) = wb at *
  go_loopw [5] (fun i wr => ∃ k : Nat, k ≤ ps.length ∧ i = .int .i64 k ∧ Below (w.heap.size + 2) wb wr) (fun i _ => ps.length - (intOf i).toNat)
  case atStart => exact ⟨0, by omega, rfl, Below.refl _ _⟩
  case round =>
    obtain ⟨k, hk1, rfl, hbel⟩ := hrel
    have HBl : Hid (Below (w.heap.size + 2) wb wr) := hbel
    have HW : Hid (Below w.heap.size w wr) := HB0.out.trans (hbel.mono (by omega))
    have ca := (hbel.cell (p := ⟨w.heap.size, 3, none⟩) (by simp only; omega)).trans HCa.out
    have cb := (hbel.cell (p := ⟨w.heap.size + 1, 3, none⟩) (by simp only; omega)).trans HCb.out
    clear hbel
    by_cases h1 : k < ps.length
    · obtain ⟨b1, o1, e1, hb1, hx⟩ := HA.out k h1
      obtain ⟨x0, x1, x2, x3, x4, x5, x6, x7⟩ := hx.later HW.out hb1
      subst e1
      obtain ⟨b2, o2, e2, hb2, hy⟩ := HB.out k h1
      obtain ⟨y0, y1, y2, y3, y4, y5, y6, y7⟩ := hy.later HW.out hb2
      subst e2
      have hev := fun w => eqP ps[k] w
      clear hx hy
      go_wp2_with fail
      go_quiet (fail)
      go_wp2
      go_roundw
      case rel => exact ⟨k + 1, by omega, by go_num, HBl.out.trans (below_drewNP _)⟩
      case measure => simp [intOf]; omega
    · go_wp2
      go_ret
      exact ⟨rfl, HW.out⟩
end Go.Proofs.YtjceellpmopnkaaDoor
