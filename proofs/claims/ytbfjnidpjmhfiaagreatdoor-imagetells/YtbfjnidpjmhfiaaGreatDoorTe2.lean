import Derived.Test.YtbfjnidpjmhfiaaGreatDoorMd6
import Derived.Test.YtbfjnidpjmhfiaaGreatDoorMfR
import Derived.Laws.StructEq
import Derived.Laws.AppendOwnNone
import Derived.Test.YtbfjnidpjmhfiaaGreatDoorTe1
import Derived.Test.YtbfjnidpjmhfiaaGreatDoorDa5
import Derived.Test.YtbfjnidpjmhfiaaGreatDoorDa12
import Derived.Test.YtbfjnidpjmhfiaaGreatDoorDe5
import Derived.Test.YtbfjnidpjmhfiaaGreatDoorDe12
import Derived.Test.YtbfjnidpjmhfiaaGreatDoorMf7
import Derived.Test.YtbfjnidpjmhfiaaGreatDoorDe20
namespace Go.Proofs.YtbfjnidpjmhfiaaGreatDoor
open Go.ChangeShapes Go.WideShapes Go.ChangeAt Go.RowKit
set_option linter.unusedVariables false
set_option maxRecDepth 100000
theorem encP_bytes {gen next upto last : Int} {p : PN} (hw : p.wf) (hm : mayL gen next upto p) (hl : last ≤ p.lo) (h0 : 0 ≤ last) : ∀ x ∈ encP last p, 0 ≤ x ∧ x < 256 := by
  obtain ⟨m1, m2, m3, m4, m5, m6, m7, m8, m9, m10, m11, m12⟩ := hm
  obtain ⟨w1, w2, w3, w4, w5, w6, w7, w8, w9, w10, w11, w12, w13, w14, w15, w16⟩ := hw
  unfold encP
  exact bytes_app (uvB_bytes _ (by omega) (by omega)) (bytes_app (uvB_bytes _ (by omega) (by omega)) (bytes_app (uvB_bytes _ (by omega) (by omega)) (bytes_app (uvB_bytes _ (by omega) (by omega)) (bytes_app (uvB_bytes _ (by omega) (by omega)) (bytes_app (uvB_bytes _ (by omega) (by omega)) (bytes_app (fxB_bytes 4 _) (fxB_bytes 4 _)))))))
theorem encPs_bytes {gen next upto : Int} : ∀ (ps : List PN) (last : Int), 0 ≤ last → okFrom gen next upto last ps → ∀ x ∈ encPs last ps, 0 ≤ x ∧ x < 256
  | [], _, _, _, x, h => by cases h
  | p :: ps, last, h0, ⟨o1, o2, o3, o4⟩, x, h => bytes_app (encP_bytes o3 o2 o1 h0) (encPs_bytes ps p.hi o3.hi0 o4) x h
theorem encM_bytes {gen next upto : Int} {ps : List PN} (hm : mayM gen next upto ps) (hw : ∀ p ∈ ps, p.wf) (hu : 0 ≤ upto) : ∀ x ∈ encM gen next upto ps, 0 ≤ x ∧ x < 256 := by
  have hf := mayM_from hm hw
  obtain ⟨⟨g1, g2⟩, ⟨n1, n2⟩, u1, l1, _⟩ := hm
  unfold encM
  exact bytes_app (uvB_bytes _ (by omega) (by omega)) (bytes_app (uvB_bytes _ (by omega) (by omega)) (bytes_app (uvB_bytes _ (by omega) (by omega)) (bytes_app (uvB_bytes _ (by omega) (by omega)) (encPs_bytes ps 0 (by omega) hf))))
theorem mgM_bytes : ∀ x ∈ mgM, 0 ≤ x ∧ x < 256 := by decide
theorem mgB_str : mgB = strOfNums mgM := by decide
theorem MoYes.seal {b : ByteArray} {gen next upto : Int} {ps : List PN} (h : MoYes b gen next upto ps) : sealM mgM (encM gen next upto ps) = b := by
  obtain ⟨h0, hr, hm, hw, hu⟩ := h
  obtain ⟨h12, hg, hc⟩ := opE_parts h0
  have hsz : (b.extract 0 (b.size - 4)).size = b.size - 4 := by rw [ByteArray.size_extract]; omega
  obtain ⟨f1, f2, -⟩ := rdM_form (by omega) hr
  have e1 := has_ext (encM_bytes hm hw hu) (by omega) f1
  rw [← f2] at e1
  have e2 : (b.extract 0 (b.size - 4)).extract 0 8 = strOfNums mgM := by
    rw [← mgB_str, ← hg, ByteArray.extract_extract]
    congr 1
    omega
  have e3 : b.extract 0 (b.size - 4) = strOfNums (mgM ++ encM gen next upto ps) := by
    rw [strApp, ← e1, ← e2]
    exact split_at _ 8 (by omega)
  have e4 := (fx4_iff b (b.size - 4) _ (by omega) (by unfold crN; omega)).1 hc
  unfold sealM
  rw [← e3, e4]
  exact (split_at b (b.size - 4) (by omega)).symm
theorem seal_parts {b : ByteArray} {l : List Int} (h : sealM mgM l = b) : b.size = 12 + l.length ∧ b.extract 0 (b.size - 4) = strOfNums (mgM ++ l) := by
  have hz : (strOfNums (mgM ++ l)).size = 8 + l.length := by rw [strOfNums_size, List.length_append]; rfl
  have hb : b.size = 12 + l.length := by
    rw [← h]
    unfold sealM
    rw [ByteArray.size_append, hz, strOfNums_size, fxB_len]
    omega
  refine ⟨hb, ?_⟩
  rw [hb, show 12 + l.length - 4 = (strOfNums (mgM ++ l)).size from by omega, ← h]
  unfold sealM
  exact ByteArray.extract_append_eq_left rfl
theorem seal_has {b : ByteArray} {l : List Int} (hl : ∀ x ∈ l, 0 ≤ x ∧ x < 256) (h : sealM mgM l = b) : HasAt (b.extract 0 (b.size - 4)) 8 l := by
  rw [(seal_parts h).2]
  intro i hi
  obtain ⟨g, hg⟩ := nums_get (mgM ++ l) (bytes_app mgM_bytes hl) (8 + i) (by rw [List.length_append]; show _ < 8 + _; omega)
  refine ⟨g, ?_⟩
  rw [hg, List.getElem_append_right (by show 8 ≤ _; omega)]
  congr 1
  show 8 + i - 8 = i
  omega
theorem MoYes.of {b : ByteArray} {gen next upto : Int} {ps : List PN} (h0 : opE b mgB = 0) (hm : mayM gen next upto ps) (hw : ∀ p ∈ ps, p.wf) (hu : 0 ≤ upto) (h : sealM mgM (encM gen next upto ps) = b) : MoYes b gen next upto ps := by
  have hp := (seal_parts h).1
  have hsz : (b.extract 0 (b.size - 4)).size = b.size - 4 := by rw [ByteArray.size_extract]; omega
  exact ⟨h0, rdM_back (by omega) hu hm hw (seal_has (encM_bytes hm hw hu) h) (by omega), hm, hw, hu⟩
theorem MoYes.has {b : ByteArray} {gen next upto : Int} {ps : List PN} (h : MoYes b gen next upto ps) : HasAt (b.extract 8 (b.size - 4)) 0 (encM gen next upto ps) := by
  have hp := (seal_parts h.seal).1
  exact has_shift (by omega) (seal_has (encM_bytes h.2.2.1 h.2.2.2.1 h.2.2.2.2) h.seal) (by omega)
end Go.Proofs.YtbfjnidpjmhfiaaGreatDoor

namespace Go.Proofs.YtbfjnidpjmhfiaaGreatDoor
open Go.ChangeShapes Go.WideShapes Go.ChangeAt Go.RowKit
set_option linter.unusedVariables false
set_option maxRecDepth 100000
theorem MoYes.one {b : ByteArray} {g n u g' n' u' : Int} {ps ps' : List PN} (h : MoYes b g n u ps) (k : MoYes b g' n' u' ps') : g = g' ∧ n = n' ∧ u = u' ∧ ps = ps' := by
  have := h.2.1.symm.trans k.2.1
  injection this with this
  injection this with ha hd
  injection ha with ha hb
  injection hb with hb hc
  exact ⟨ha, hb, hc, hd⟩
theorem MoYes.no {b : ByteArray} {g n u : Int} {ps : List PN} (h : MoYes b g n u ps) {c : Int} (k : MoNo b c) : False := by
  rcases k with ⟨k1, _⟩ | ⟨_, _, k3⟩
  · exact k1 h.1
  · exact k3 _ _ _ _ h.2.1 h.2.2.1
theorem eqP (a : PN) (w : World) : (Op.equalIn 10000 79 (.agg #[.int .i64 a.id, .int .u64 a.lo, .int .u64 a.hi, .int .i64 a.rows, .int .i64 a.gen, .int .i64 a.gone, .int .u32 a.ds, .int .u32 a.es]) (.agg #[.int .i64 a.id, .int .u64 a.lo, .int .u64 a.hi, .int .i64 a.rows, .int .i64 a.gen, .int .i64 a.gone, .int .u32 a.ds, .int .u32 a.es])).run Tryz.prog w = .ok true w := by
  obtain ⟨a1, a2, a3, a4, a5, a6, a7, a8⟩ := a
  have u3 := Tryz.underlying3
  have u4 := Tryz.underlying22
  have u5 := Tryz.underlying77
  have hS : Tryz.prog.underlying 79 = some (.struct (Tryz.prog.fieldsOf 79)) := by kernel_rfl
  have hp : Tryz.prog.stoodInHeld 79 = false := by kernel_rfl
  rw [show (10000 : Nat) = 9999 + 1 from rfl, run_equalIn_agg w 9999 79 _ _ hS hp]
  simp only [Program.fieldsOf, Tryz.underlying79]
  go_simp
theorem below_drewNP {B : Nat} {w : World} (n : Nat) : Below B w (w.drewN n) := by
  induction n generalizing w with
  | zero => exact Below.refl _ _
  | succ n ih => exact (ih (w := w)).drew
theorem guardP : Tryz.prog.eqGuardType Tryz.prog.depth 79 = false := by kernel_rfl
set_option maxHeartbeats 3200000 in
theorem sameM_eq (w : World) (gen next upto : Int) (ao bo : Option Addr) (cap cap2 : Nat) (ps : List PN) (ha : SeesP w w.heap.size ao ps) (hb : SeesP w w.heap.size bo ps) (hl : ps.length ≤ 9000000000000) :
    Calls Tryz.prog 23 #[.agg #[.int .i64 gen, .int .i64 next, .int .u64 upto, .slice ao ps.length cap], .agg #[.int .i64 gen, .int .i64 next, .int .u64 upto, .slice bo ps.length cap2]] w fun e w' => e = .returned (.bool true) ∧ Below w.heap.size w w' := by
  have HA : Hid _ := ha
  have HB : Hid _ := hb
  have hgd := guardP
  clear ha hb
  have HX : Hid (∀ A B : Obj, Below w.heap.size w ((w.alloc A).alloc B)) := fun A B => ((Below.refl _ _).alloc (Nat.le_refl _) _).alloc (by simp) _
  go_enter Tryz.func23, Tryz.ntmps23
  go_wp2_with fail
  have HB0 : Hid (Below w.heap.size w ((w.alloc (.cells #[.int .i64 gen, .int .i64 next, .int .u64 upto, .slice ao ps.length cap] 29)).alloc (.cells #[.int .i64 gen, .int .i64 next, .int .u64 upto, .slice bo ps.length cap2] 29))) := HX.out _ _
  have HCa : Hid (((w.alloc (.cells #[.int .i64 gen, .int .i64 next, .int .u64 upto, .slice ao ps.length cap] 29)).alloc (.cells #[.int .i64 gen, .int .i64 next, .int .u64 upto, .slice bo ps.length cap2] 29)).cell? ⟨w.heap.size, 3, none⟩ = some (.slice ao ps.length cap)) := by show _ = _; simp [go_sem]
  have HCb : Hid (((w.alloc (.cells #[.int .i64 gen, .int .i64 next, .int .u64 upto, .slice ao ps.length cap] 29)).alloc (.cells #[.int .i64 gen, .int .i64 next, .int .u64 upto, .slice bo ps.length cap2] 29)).cell? ⟨w.heap.size + 1, 3, none⟩ = some (.slice bo ps.length cap2)) := by show _ = _; simp [go_sem]
  have HSz : Hid (((w.alloc (.cells #[.int .i64 gen, .int .i64 next, .int .u64 upto, .slice ao ps.length cap] 29)).alloc (.cells #[.int .i64 gen, .int .i64 next, .int .u64 upto, .slice bo ps.length cap2] 29)).heap.size = w.heap.size + 2) := by show _ = _; simp
  generalize (w.alloc (.cells #[.int .i64 gen, .int .i64 next, .int .u64 upto, .slice ao ps.length cap] 29)).alloc (.cells #[.int .i64 gen, .int .i64 next, .int .u64 upto, .slice bo ps.length cap2] 29) = wb at *
  go_loopw [5] (fun i wr => ∃ k : Nat, k ≤ ps.length ∧ i = .int .i64 k ∧ Below (w.heap.size + 2) wb wr) (fun i _ => ps.length - (intOf i).toNat)
  case atStart => exact ⟨0, by omega, rfl, Below.refl _ _⟩
  case round =>
    obtain ⟨k, hk1, rfl, hbel⟩ := hrel
    have HBl : Hid (Below (w.heap.size + 2) wb wr) := hbel
    have HW : Hid (Below w.heap.size w wr) := HB0.out.trans (hbel.mono (by omega))
    have ca := (hbel.cell (p := ⟨w.heap.size, 3, none⟩) (by simp only; omega)).trans HCa.out
    have cb := (hbel.cell (p := ⟨w.heap.size + 1, 3, none⟩) (by simp only; omega)).trans HCb.out
    clear hbel
    by_cases h1 : k < ps.length
    · obtain ⟨b1, o1, e1, hb1, hx⟩ := HA.out k h1
      obtain ⟨x0, x1, x2, x3, x4, x5, x6, x7⟩ := hx.later HW.out hb1
      subst e1
      obtain ⟨b2, o2, e2, hb2, hy⟩ := HB.out k h1
      obtain ⟨y0, y1, y2, y3, y4, y5, y6, y7⟩ := hy.later HW.out hb2
      subst e2
      have hev := fun w => eqP ps[k] w
      clear hx hy
      go_wp2_with fail
      go_quiet (fail)
      go_wp2
      go_roundw
      case rel => exact ⟨k + 1, by omega, by go_num, HBl.out.trans (below_drewNP _)⟩
      case measure => simp [intOf]; omega
    · go_wp2
      go_ret
      exact ⟨rfl, HW.out⟩
theorem PnAt.at {w : World} {b o : Nat} {p : PN} (h : PnAt w b o p) {j : Nat} {u : Value} (hj : (cellP p)[j]? = some u) : w.cell? ⟨b, o + j, none⟩ = some u := by
  obtain ⟨c0, c1, c2, c3, c4, c5, c6, c7⟩ := h
  match j, hj with
  | 0, hj => simp [cellP] at hj; subst hj; exact c0
  | 1, hj => simp [cellP] at hj; subst hj; exact c1
  | 2, hj => simp [cellP] at hj; subst hj; exact c2
  | 3, hj => simp [cellP] at hj; subst hj; exact c3
  | 4, hj => simp [cellP] at hj; subst hj; exact c4
  | 5, hj => simp [cellP] at hj; subst hj; exact c5
  | 6, hj => simp [cellP] at hj; subst hj; exact c6
  | 7, hj => simp [cellP] at hj; subst hj; exact c7
  | j + 8, hj => simp [cellP] at hj
theorem cellsP_at : ∀ (vs : List PN) (j : Nat) (u : Value), (cellsP vs)[j]? = some u → ∃ hi : j / 8 < vs.length, (cellP vs[j / 8])[j % 8]? = some u
  | [], j, u, h => by simp [cellsP] at h
  | v :: vs, j, u, h => by
    rw [show cellsP (v :: vs) = cellP v ++ cellsP vs from rfl] at h
    have hl : (cellP v).length = 8 := rfl
    by_cases hj : j < 8
    · rw [List.getElem?_append_left (by omega)] at h
      refine ⟨by simp; omega, ?_⟩
      have e1 : j / 8 = 0 := by omega
      have e2 : j % 8 = j := by omega
      simp only [e1, e2, List.getElem_cons_zero]
      exact h
    · rw [List.getElem?_append_right (by omega), hl] at h
      obtain ⟨hi, hu⟩ := cellsP_at vs (j - 8) u h
      have e1 : j / 8 = (j - 8) / 8 + 1 := by omega
      have e2 : j % 8 = (j - 8) % 8 := by omega
      refine ⟨by simp; omega, ?_⟩
      simp only [e1, e2, List.getElem_cons_succ]
      exact hu
theorem SeesP.at {w : World} {B : Nat} {b off : Nat} {vs : List PN} (h : SeesP w B (some ⟨b, off, none⟩) vs) {j : Nat} {u : Value} (hj : (cellsP vs)[j]? = some u) : w.cell? ⟨b, off + j, none⟩ = some u := by
  obtain ⟨hi, hu⟩ := cellsP_at vs j u hj
  obtain ⟨b', off', e, _, hp⟩ := h _ hi
  simp only [Option.some.injEq, Addr.mk.injEq, and_true] at e
  obtain ⟨rfl, rfl⟩ := e
  have := hp.at hu
  rwa [show off + j / 8 * 8 + j % 8 = off + j from by omega] at this
theorem app_pns {w : World} {ops : Array Oper} {rest : List Oper} {o : Oper} {a : Act} {Q : Exit → Act → World → Prop} (hgd : o.guard = none) (s x : Operand)
    (ho : o.op = .call { callee := .builtin .append, args := #[s, x], argTypes := #[27, 27] })
    (B C : Nat) (v : Value) (xs : List PN) (hown : ownP w B v xs) (hs : a.eval s = v) (ao : Option Addr) (cap : Nat) (vs : List PN) (hx : a.eval x = .slice ao vs.length cap) (hsee : SeesP w C ao vs) (hcap : ao = none → vs = [] ∧ cap = 0)
    (hao : ∀ ad, ao = some ad → vs ≠ [] → ∃ b off, ad = ⟨b, off, none⟩) (hlen : (xs.length + vs.length) * 56 ≤ 140737488355328) (hB : B ≤ w.heap.size)
    (h : ∀ v' w', ownP w' B v' (xs ++ vs) → w.grownBy w' v.ownBlock → wpList Tryz.prog ops Q rest (a.put o.dst v') w') :
    wpList Tryz.prog ops Q (o :: rest) a w := by
  obtain ⟨i0, hi, hz0, hz1, hz2⟩ := info_parts infoP
  match ao, hx, hsee, hcap, hao with
  | none, hx, hsee, hcap, _ =>
    obtain ⟨rfl, rfl⟩ := hcap rfl
    refine wpList_append_own_none hgd s x 27 ho B 79 i0 8 Tryz.underlying27 hi v xs.length _ hs hown hx (h v w ?_ ⟨rfl, rfl, rfl, Nat.le_refl _, fun _ _ _ => rfl⟩)
    rw [List.append_nil]; exact hown
  | some ad, hx, hsee, _, hao =>
    refine wpList_append_own _ hgd s x 27 ho B 79 i0 _ 8 56 Tryz.underlying27 hi hz0 hz1 hz2 rfl (by decide) v xs.length _ hs hown
      ad vs.length cap (cellsP vs) hx (cellsP_len vs) ?_ (cellsP_one vs) (by unfold maxLen; omega) hlen hB ?_
    · intro j u hj
      obtain ⟨b, off, rfl⟩ := hao ad rfl (fun e => by rw [e] at hj; simp [cellsP] at hj)
      have ea : (⟨b, off, none⟩ : Addr).add j = ⟨b, off + j, none⟩ := by unfold Addr.add; split <;> simp_all
      rw [ea]
      exact hsee.at hj
    · intro v' w' hown' hgrow _
      refine h v' w' ?_ hgrow
      unfold ownP
      rw [List.length_append, cellsP_app]
      exact hown'
theorem own_litP0 (w : World) : ownP (w.alloc (.cells #[] 79)) w.heap.size (.slice (some ⟨w.heap.size, 0, none⟩) 0 0) [] := World.ownsRow_made w #[] 0 (Nat.le_refl _) (by decide) rfl
/-- A copy of a manifest. -/
def TwM (w : World) (gen next upto : Int) (ps : List PN) (e : Ending) (w' : World) : Prop := Below w.heap.size w w' ∧ ∃ v, e = .returned (.agg #[.int .i64 gen, .int .i64 next, .int .u64 upto, v]) ∧ ownP w' w.heap.size v ps
set_option maxHeartbeats 3200000 in
theorem twinM_any (w : World) (gen next upto : Int) (ao : Option Addr) (cap : Nat) (ps : List PN) (ha : SeesP w w.heap.size ao ps) (hcap : ao = none → ps = [] ∧ cap = 0) (hao : ∀ ad, ao = some ad → ps ≠ [] → ∃ b off, ad = ⟨b, off, none⟩) (hl : ps.length * 56 ≤ 140737488355328) :
    Calls Tryz.prog 21 #[.agg #[.int .i64 gen, .int .i64 next, .int .u64 upto, .slice ao ps.length cap]] w (TwM w gen next upto ps) := by
  have HA : Hid _ := ha
  have HCp : Hid _ := hcap
  have HAo : Hid _ := hao
  clear ha hcap hao
  have HB3 : Hid (Below w.heap.size w (((w.alloc (.cells #[.int .i64 gen, .int .i64 next, .int .u64 upto, .slice ao ps.length cap] 29)).alloc (.cells #[.int .i64 0, .int .i64 0, .int .u64 0, .slice none 0 0] 29)).alloc (.cells #[.int .i64 gen, .int .i64 next, .int .u64 upto, .slice ao ps.length cap] 29))) := (((Below.refl _ _).alloc (Nat.le_refl _) _).alloc (by simp) _).alloc (by simp; omega) _
  have HSz : Hid ((((w.alloc (.cells #[.int .i64 gen, .int .i64 next, .int .u64 upto, .slice ao ps.length cap] 29)).alloc (.cells #[.int .i64 0, .int .i64 0, .int .u64 0, .slice none 0 0] 29)).alloc (.cells #[.int .i64 gen, .int .i64 next, .int .u64 upto, .slice ao ps.length cap] 29)).heap.size = w.heap.size + 3) := by show _ = _; simp
  have HN : Hid (Mn4 (((w.alloc (.cells #[.int .i64 gen, .int .i64 next, .int .u64 upto, .slice ao ps.length cap] 29)).alloc (.cells #[.int .i64 0, .int .i64 0, .int .u64 0, .slice none 0 0] 29)).alloc (.cells #[.int .i64 gen, .int .i64 next, .int .u64 upto, .slice ao ps.length cap] 29)) (w.heap.size + 2) (.int .i64 gen) (.int .i64 next) (.int .u64 upto) (.slice ao ps.length cap)) := by
    have := heap_alloc_new ((w.alloc (.cells #[.int .i64 gen, .int .i64 next, .int .u64 upto, .slice ao ps.length cap] 29)).alloc (.cells #[.int .i64 0, .int .i64 0, .int .u64 0, .slice none 0 0] 29)) (.cells #[.int .i64 gen, .int .i64 next, .int .u64 upto, .slice ao ps.length cap] 29)
    rw [show ((w.alloc (.cells #[.int .i64 gen, .int .i64 next, .int .u64 upto, .slice ao ps.length cap] 29)).alloc (.cells #[.int .i64 0, .int .i64 0, .int .u64 0, .slice none 0 0] 29)).heap.size = w.heap.size + 2 from by simp] at this
    exact this
  have HZ : Hid (Mn4 (((w.alloc (.cells #[.int .i64 gen, .int .i64 next, .int .u64 upto, .slice ao ps.length cap] 29)).alloc (.cells #[.int .i64 0, .int .i64 0, .int .u64 0, .slice none 0 0] 29)).alloc (.cells #[.int .i64 gen, .int .i64 next, .int .u64 upto, .slice ao ps.length cap] 29)) (w.heap.size + 1) (.int .i64 0) (.int .i64 0) (.int .u64 0) (.slice none 0 0)) := by
    have := heap_alloc_new (w.alloc (.cells #[.int .i64 gen, .int .i64 next, .int .u64 upto, .slice ao ps.length cap] 29)) (.cells #[.int .i64 0, .int .i64 0, .int .u64 0, .slice none 0 0] 29)
    rw [show (w.alloc (.cells #[.int .i64 gen, .int .i64 next, .int .u64 upto, .slice ao ps.length cap] 29)).heap.size = w.heap.size + 1 from by simp] at this
    exact (Below.heap_alloc _ _ _ (by simp)).trans this
  go_enter Tryz.func21, Tryz.ntmps21
  go_wp2_with (at_builtin; refine hideG ?_)
  change wpList _ _ _ _ _ _
  generalize (((w.alloc (.cells #[.int .i64 gen, .int .i64 next, .int .u64 upto, .slice ao ps.length cap] 29)).alloc (.cells #[.int .i64 0, .int .i64 0, .int .u64 0, .slice none 0 0] 29)).alloc (.cells #[.int .i64 gen, .int .i64 next, .int .u64 upto, .slice ao ps.length cap] 29)) = W3 at *
  have hal : Below W3.heap.size W3 (W3.alloc (.cells #[] 79)) := (Below.refl _ _).alloc (Nat.le_refl _) _
  refine app_pns (by rfl) _ _ (by rfl) W3.heap.size w.heap.size _ [] (own_litP0 W3) (by rw [HSz.out]; rfl) ao cap ps (by rfl) (SeesP.later HA.out (HB3.out.trans (hal.mono HB3.out.size))) HCp.out HAo.out (by simpa using hl) (by simp) ?_
  intro v' w' ho hgrow
  rw [List.nil_append] at ho
  obtain ⟨a', n', c', rfl⟩ := ho.isSlice
  have hkeep : ∀ k, k < W3.heap.size → w'.heap[k]? = W3.heap[k]? := fun k hk => (hgrow.block k (by simp; omega) (fun e => by injection e with e; have e' : k = W3.heap.size := e; omega)).trans (Below.heap_alloc _ _ k hk)
  have hN' : Mn4 w' (w.heap.size + 2) (.int .i64 gen) (.int .i64 next) (.int .u64 upto) (.slice ao ps.length cap) := (hkeep _ HN.out.lt).trans HN.out
  have hZ' : Mn4 w' (w.heap.size + 1) (.int .i64 0) (.int .i64 0) (.int .u64 0) (.slice none 0 0) := (hkeep _ HZ.out.lt).trans HZ.out
  have HB' : Hid (Below w.heap.size w w') := HB3.out.trans ((hal.mono HB3.out.size).grown hgrow (by simp; have := HSz.out; omega) (fun k hk => by injection hk with hk; have e' : W3.heap.size = k := hk; have := HSz.out; omega))
  have HO' : Hid (ownP w' W3.heap.size (.slice a' n' c') ps) := ho
  have HZ' : Hid (Mn4 w' (w.heap.size + 1) (.int .i64 0) (.int .i64 0) (.int .u64 0) (.slice none 0 0)) := hZ'
  have u0 : w'.cell? ⟨w.heap.size + 2, 0, none⟩ = some (.int .i64 gen) := hN'.cell 0
  have u1 : w'.cell? ⟨w.heap.size + 2, 1, none⟩ = some (.int .i64 next) := hN'.cell 1
  have u2 : w'.cell? ⟨w.heap.size + 2, 2, none⟩ = some (.int .u64 upto) := hN'.cell 2
  have u3 : w'.cell? ⟨w.heap.size + 2, 3, none⟩ = some (.slice ao ps.length cap) := hN'.cell 3
  have g3 := hN'.free 3
  have z0 : w'.cell? ⟨w.heap.size + 1, 0, none⟩ = some (.int .i64 0) := hZ'.cell 0
  have z1 : w'.cell? ⟨w.heap.size + 1, 1, none⟩ = some (.int .i64 0) := hZ'.cell 1
  have z2 : w'.cell? ⟨w.heap.size + 1, 2, none⟩ = some (.int .u64 0) := hZ'.cell 2
  have z3 : w'.cell? ⟨w.heap.size + 1, 3, none⟩ = some (.slice none 0 0) := hZ'.cell 3
  have o0 := hZ'.free 0
  have o1 := hZ'.free 1
  have o2 := hZ'.free 2
  have o3 := hZ'.free 3
  clear ho hgrow hkeep hN' hZ' hal HN HZ HB3 HA HCp HAo
  go_wp2
  have hz1 := (HZ'.out.other (p := ⟨w.heap.size + 2, 3, none⟩) (.slice a' n' c') (by simp only; omega)).setAll (.int .i64 gen) (.int .i64 next) (.int .u64 upto) (.slice a' n' c')
  refine bodyPost_ret (ret_mn rfl _ _ _ _ _ _ (w.heap.size + 1) (by rfl) hz1) rfl ⟨?_, _, rfl, ?_⟩
  · exact ((((HB'.out.setCell (p := ⟨w.heap.size + 2, 3, none⟩) (by simp only; omega) _).setCell (p := ⟨w.heap.size + 1, 0, none⟩) (by simp only; omega) _).setCell (p := ⟨w.heap.size + 1, 1, none⟩) (by simp only; omega) _).setCell (p := ⟨w.heap.size + 1, 2, none⟩) (by simp only; omega) _).setCell (p := ⟨w.heap.size + 1, 3, none⟩) (by simp only; omega) _
  · refine (HO'.out.same fun k hk hB => ?_).mono (by have := HSz.out; omega)
    have hsz := HSz.out
    have hne : k ≠ w.heap.size + 1 := by omega
    have hne2 : k ≠ w.heap.size + 2 := by omega
    exact (Below.heap_setCell _ _ _ k hne).trans ((Below.heap_setCell _ _ _ k hne).trans ((Below.heap_setCell _ _ _ k hne).trans ((Below.heap_setCell _ _ _ k hne).trans (Below.heap_setCell _ _ _ k hne2))))
end Go.Proofs.YtbfjnidpjmhfiaaGreatDoor

namespace Go.Proofs.YtbfjnidpjmhfiaaGreatDoor
open Go.ChangeShapes Go.WideShapes Go.ChangeAt Go.RowKit
set_option linter.unusedVariables false
set_option maxRecDepth 100000
theorem AoYes.oneT {b : ByteArray} {g n m g' n' m' : Int} {ps ps' : List DT} (h : AoYes b g n m ps) (k : AoYes b g' n' m' ps') : g = g' ∧ n = n' ∧ m = m' ∧ ps = ps' := by
  have := h.2.1.symm.trans k.2.1
  injection this with this
  injection this with ha hd
  injection ha with ha hb
  injection hb with hb hc
  exact ⟨ha, hb, hc, hd⟩
theorem AoYes.noT {b : ByteArray} {g n m : Int} {ps : List DT} (h : AoYes b g n m ps) {c : Int} (k : AoNo b c) : False := by
  rcases k with ⟨k1, _⟩ | ⟨_, _, k3⟩
  · exact k1 h.1
  · exact k3 _ _ _ _ h.2.1 h.2.2.1
theorem DoYes.oneT {b : ByteArray} {g n g' n' : Int} {ps ps' : List ER} (h : DoYes b g n ps) (k : DoYes b g' n' ps') : g = g' ∧ n = n' ∧ ps = ps' := by
  have := h.2.1.symm.trans k.2.1
  injection this with this
  injection this with ha hd
  injection ha with ha hb
  exact ⟨ha, hb, hd⟩
theorem DoYes.noT {b : ByteArray} {g n : Int} {ps : List ER} (h : DoYes b g n ps) {c : Int} (k : DoNo b c) : False := by
  rcases k with ⟨k1, _⟩ | ⟨_, _, k3⟩
  · exact k1 h.1
  · exact k3 _ _ _ h.2.1 h.2.2.1
theorem opE_boundT (b mg : ByteArray) : 0 ≤ opE b mg ∧ opE b mg ≤ 124 := by
  unfold opE
  split
  · omega
  · split
    · omega
    · split <;> omega
/-- The code of a reading, which is not OK where a byte is turned. -/
def Coded (w : World) (S T : ByteArray) (e : Ending) (w' : World) : Prop := Below w.heap.size w w' ∧ ∃ q c, e = .returned (.tuple #[q, .int .i64 c]) ∧ 0 ≤ c ∧ c ≤ 1000 ∧ (Turned S T → c ≠ 0)
/-- data: what may be is read back. -/
theorem data_back (id lo hi : Int) (ps : List DT) (h0l : 0 ≤ lo) (hm : mayA id lo hi ps) (hw : ∀ p ∈ ps, p.wf) : ∃ S : ByteArray, S = sealM mgDa (encA id lo hi ps) ∧ 12 ≤ S.size ∧ S.size ≤ 140737488355 ∧ (∀ w, HalfAt w → Calls Tryz.prog 12 #[.string S] w fun e w' => Below w.heap.size w w' ∧ ∃ v, e = .returned (.tuple #[.agg #[.int .i64 id, .int .u64 lo, .int .u64 hi, v, .int .i64 0, .slice none 0 0], .int .i64 0]) ∧ ownT w' w.heap.size v ps) ∧ (∀ T, T.size = S.size → ∀ w, HalfAt w → Calls Tryz.prog 12 #[.string T] w (Coded w S T)) := by
  obtain ⟨h0, hz⟩ := opE_seal mgDa (encA id lo hi ps) rfl mgAB mgAB_str
  have hlen : ((encA id lo hi ps)).length ≤ 140737488000 := by
    have h1 := encTs_len ps lo (fun p hp => by
      obtain ⟨i, hi, rfl⟩ := List.mem_iff_getElem.1 hp
      exact ⟨(hm.2.2.2 i hi).1.2.2.2.1, (hm.2.2.2 i hi).1.2.2.2.2⟩)
    have h2 := headA_len id lo hi ps
    have h3 := hm.2.2.1
    rw [encA_head, List.length_append]
    omega
  have hY : AoYes (sealM mgDa (encA id lo hi ps)) id lo hi ps := AoYes.of h0 h0l hm hw rfl
  refine ⟨sealM mgDa (encA id lo hi ps), rfl, by omega, by omega, fun w hT => (decDat_any w _ (by omega) hT).mono ?_, fun T hTz w hT => (decDat_any w T (by omega) hT).mono ?_⟩
  · rintro e w' ⟨hb, ⟨g', n', m', ps', v, hy, he, ho⟩ | ⟨c, hn, _⟩⟩
    · obtain ⟨rfl, rfl, rfl, rfl⟩ := hY.oneT hy
      exact ⟨hb, v, he, ho⟩
    · exact (hY.noT hn).elim
  · rintro e w' ⟨hb, ⟨g', n', m', ps', v, hy, he, ho⟩ | ⟨c, hn, he⟩⟩
    · exact ⟨hb, _, 0, he, by omega, by omega, fun ht => absurd hy.1 (opE_turn h0 ht)⟩
    · have hbd := opE_boundT T mgAB
      rcases hn with ⟨k1, k2⟩ | ⟨k1, k2, _⟩
      · exact ⟨hb, _, c, he, by omega, by omega, fun _ => by rw [k2]; exact k1⟩
      · exact ⟨hb, _, c, he, by omega, by omega, fun ht => absurd k1 (opE_turn h0 ht)⟩
/-- delta: what may be is read back. -/
theorem delta_back (id gen : Int) (ps : List ER) (hm : mayD id gen ps) (hw : ∀ p ∈ ps, p.wf) : ∃ S : ByteArray, S = sealM mgDl (encD id gen ps) ∧ 12 ≤ S.size ∧ S.size ≤ 140737488355 ∧ (∀ w, HalfAt w → Calls Tryz.prog 18 #[.string S] w fun e w' => Below w.heap.size w w' ∧ ∃ v, e = .returned (.tuple #[.agg #[.int .i64 id, .int .u64 0, .int .u64 0, .slice none 0 0, .int .i64 gen, v], .int .i64 0]) ∧ ownE w' w.heap.size v ps) ∧ (∀ T, T.size = S.size → ∀ w, HalfAt w → Calls Tryz.prog 18 #[.string T] w (Coded w S T)) := by
  obtain ⟨h0, hz⟩ := opE_seal mgDl (encD id gen ps) rfl mgDB mgDB_str
  have hlen : ((encD id gen ps)).length ≤ 140737488000 := by
    have h1 := encEs_len ps 0 (fun p hp => by
      obtain ⟨i, hi, rfl⟩ := List.mem_iff_getElem.1 hp
      exact (hm.2.2.2 i hi).1.2.2.2.2)
    have h2 := headD_len id gen ps
    have h3 := hm.2.2.1.2
    rw [encD_head, List.length_append]
    omega
  have hY : DoYes (sealM mgDl (encD id gen ps)) id gen ps := DoYes.of h0 hm hw rfl
  refine ⟨sealM mgDl (encD id gen ps), rfl, by omega, by omega, fun w hT => (decDel_any w _ (by omega) hT).mono ?_, fun T hTz w hT => (decDel_any w T (by omega) hT).mono ?_⟩
  · rintro e w' ⟨hb, ⟨g', n', ps', v, hy, he, ho⟩ | ⟨c, hn, _⟩⟩
    · obtain ⟨rfl, rfl, rfl⟩ := hY.oneT hy
      exact ⟨hb, v, he, ho⟩
    · exact (hY.noT hn).elim
  · rintro e w' ⟨hb, ⟨g', n', ps', v, hy, he, ho⟩ | ⟨c, hn, he⟩⟩
    · exact ⟨hb, _, 0, he, by omega, by omega, fun ht => absurd hy.1 (opE_turn h0 ht)⟩
    · have hbd := opE_boundT T mgDB
      rcases hn with ⟨k1, k2⟩ | ⟨k1, k2, _⟩
      · exact ⟨hb, _, c, he, by omega, by omega, fun _ => by rw [k2]; exact k1⟩
      · exact ⟨hb, _, c, he, by omega, by omega, fun ht => absurd k1 (opE_turn h0 ht)⟩
/-- man: what may be is read back. -/
theorem man_back (gen next upto : Int) (ps : List PN) (hu : 0 ≤ upto) (hm : mayM gen next upto ps) (hw : ∀ p ∈ ps, p.wf) : ∃ S : ByteArray, S = sealM mgM (encM gen next upto ps) ∧ 12 ≤ S.size ∧ S.size ≤ 140737488355 ∧ (∀ w, HalfAt w → Calls Tryz.prog 22 #[.string S] w fun e w' => Below w.heap.size w w' ∧ ∃ v, e = .returned (.tuple #[.agg #[.int .i64 gen, .int .i64 next, .int .u64 upto, v], .int .i64 0]) ∧ ownP w' w.heap.size v ps) ∧ (∀ T, T.size = S.size → ∀ w, HalfAt w → Calls Tryz.prog 22 #[.string T] w (Coded w S T)) := by
  obtain ⟨h0, hz⟩ := opE_seal mgM (encM gen next upto ps) rfl mgB mgB_str
  have hlen : ((encM gen next upto ps)).length ≤ 140737488000 := by
    have h1 := encPs_len ps 0
    have h2 := headM_len gen next upto ps
    have h3 := hm.2.2.2.1
    rw [encM_head, List.length_append]
    omega
  have hY : MoYes (sealM mgM (encM gen next upto ps)) gen next upto ps := MoYes.of h0 hm hw hu rfl
  refine ⟨sealM mgM (encM gen next upto ps), rfl, by omega, by omega, fun w hT => (decMan_any w _ (by omega) hT).mono ?_, fun T hTz w hT => (decMan_any w T (by omega) hT).mono ?_⟩
  · rintro e w' ⟨hb, ⟨g', n', m', ps', v, hy, he, ho⟩ | ⟨c, hn, _⟩⟩
    · obtain ⟨rfl, rfl, rfl, rfl⟩ := hY.one hy
      exact ⟨hb, v, he, ho⟩
    · exact (hY.no hn).elim
  · rintro e w' ⟨hb, ⟨g', n', m', ps', v, hy, he, ho⟩ | ⟨c, hn, he⟩⟩
    · exact ⟨hb, _, 0, he, by omega, by omega, fun ht => absurd hy.1 (opE_turn h0 ht)⟩
    · have hbd := opE_boundT T mgB
      rcases hn with ⟨k1, k2⟩ | ⟨k1, k2, _⟩
      · exact ⟨hb, _, c, he, by omega, by omega, fun _ => by rw [k2]; exact k1⟩
      · exact ⟨hb, _, c, he, by omega, by omega, fun ht => absurd k1 (opE_turn h0 ht)⟩
end Go.Proofs.YtbfjnidpjmhfiaaGreatDoor

namespace Go.Proofs.YtbfjnidpjmhfiaaGreatDoor
open Go.ChangeShapes Go.WideShapes Go.ChangeAt Go.RowKit
set_option linter.unusedVariables false
set_option maxRecDepth 100000
/-- What stands in tells: the pair and the manifest that came in. -/
structure TlS (w : World) (id lo hi gen mg mn mu : Int) (da ao ma : Option Addr) (dc cap mc : Nat) (ds : List DT) (es : List ER) (ps : List PN) (W : World) : Prop where
  bel : Below w.heap.size w W
  p : Fp6 W w.heap.size (.int .i64 id) (.int .u64 lo) (.int .u64 hi) (.slice da ds.length dc) (.int .i64 gen) (.slice ao es.length cap)
  m : Mn4 W (w.heap.size + 1) (.int .i64 mg) (.int .i64 mn) (.int .u64 mu) (.slice ma ps.length mc)
theorem TlS.later {w : World} {id lo hi gen mg mn mu : Int} {da ao ma : Option Addr} {dc cap mc : Nat} {ds : List DT} {es : List ER} {ps : List PN} {W W' : World} (h : TlS w id lo hi gen mg mn mu da ao ma dc cap mc ds es ps W) (hb : Below W.heap.size W W') : TlS w id lo hi gen mg mn mu da ao ma dc cap mc ds es ps W' := ⟨h.bel.trans (hb.mono h.bel.size), h.p.later hb h.p.lt, h.m.later hb h.m.lt⟩
theorem toList_ne {s : ByteArray} (h : 12 ≤ s.size) : ¬ s.toList = [] := fun e => by
  have h1 : s.data.toList.length = 0 := by rw [← ByteArray.toList_eq, e]; rfl
  have h2 : s.size = s.data.toList.length := (Array.length_toList (xs := s.data)).symm
  omega
theorem SeesP.moreT {w w' : World} {ao : Option Addr} {ps : List PN} (h : SeesP w w.heap.size ao ps) (hb : Below w.heap.size w w') : SeesP w' w'.heap.size ao ps := fun i hi => by
  obtain ⟨b', o', e, hlt, hp⟩ := (h.later hb) i hi
  exact ⟨b', o', e, Nat.lt_of_lt_of_le hlt hb.size, hp⟩
end Go.Proofs.YtbfjnidpjmhfiaaGreatDoor
