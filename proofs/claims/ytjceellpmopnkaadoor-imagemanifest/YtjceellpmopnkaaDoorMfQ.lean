import Derived.Test.YtjceellpmopnkaaDoorMd5
import Derived.Test.YtjceellpmopnkaaDoorMf4
namespace Go.Proofs.YtjceellpmopnkaaDoor
open Go.ChangeShapes Go.WideShapes Go.ChangeAt Go.RowKit
set_option linter.unusedVariables false
set_option maxRecDepth 100000
theorem has_ext {s : ByteArray} {p : Nat} {l : List Int} (hl : ∀ x ∈ l, 0 ≤ x ∧ x < 256) (hp : p ≤ s.size) (h : HasAt s p l) : s.extract p (p + l.length) = strOfNums l := by
  have hz := h.size hp
  apply ByteArray.ext_getElem
  · rw [ext_size s p _ hz, strOfNums_size]
  · intro i h1 h2
    have hi : i < l.length := by rw [strOfNums_size] at h2; exact h2
    obtain ⟨g, hg⟩ := nums_get l hl i hi
    obtain ⟨g2, hg2⟩ := h i hi
    rw [ext_get s p _ i hz hi h1 g2]
    apply UInt8.toNat.inj
    omega
theorem ext_has {s : ByteArray} {p : Nat} {l : List Int} (hl : ∀ x ∈ l, 0 ≤ x ∧ x < 256) (hz : p + l.length ≤ s.size) (e : s.extract p (p + l.length) = strOfNums l) : HasAt s p l := by
  intro i hi
  obtain ⟨g, hg⟩ := nums_get l hl i hi
  refine ⟨by omega, ?_⟩
  rw [← hg]
  have hx : i < (s.extract p (p + l.length)).size := by rw [e]; exact g
  have : (s.extract p (p + l.length))[i]'hx = (strOfNums l)[i]'g := by congr 1
  rw [← this, ext_get s p _ i hz hi hx (by omega)]
theorem fx4_iff (b : ByteArray) (p c : Nat) (hp : p + 4 = b.size) (hc : c ≤ 4294967295) : c = fxV b p 4 ↔ strOfNums (fxB 4 (c : Nat)) = b.extract p b.size := by
  constructor
  · intro e
    subst e
    have := has_ext (fxB_bytes 4 _) (by omega) (fx_form b p 4 (by omega))
    rw [fxB_len, hp] at this
    exact this.symm
  · intro e
    have := fx_back b p 4 c (ext_has (fxB_bytes 4 _) (by rw [fxB_len]; omega) (by rw [fxB_len, hp]; exact e.symm))
    rw [this, Nat.mod_eq_of_lt (by omega)]
theorem fx4_str (b : ByteArray) (p c : Nat) (hp : p + 4 = b.size) (hc : c ≤ 4294967295) : decide (c = fxV b p 4) = decide (strOfNums (fxB 4 (c : Nat)) = b.extract p b.size) := by
  rw [decide_eq_decide]
  exact fx4_iff b p c hp hc
theorem bytes_app {l m : List Int} (h1 : ∀ x ∈ l, 0 ≤ x ∧ x < 256) (h2 : ∀ x ∈ m, 0 ≤ x ∧ x < 256) : ∀ x ∈ l ++ m, 0 ≤ x ∧ x < 256 := fun x h => (List.mem_append.1 h).elim (h1 x) (h2 x)
theorem encP_bytes {gen next upto last : Int} {p : PN} (hw : p.wf) (hm : mayL gen next upto p) (hl : last ≤ p.lo) (h0 : 0 ≤ last) : ∀ x ∈ encP last p, 0 ≤ x ∧ x < 256 := by
  obtain ⟨m1, m2, m3, m4, m5, m6, m7, m8, m9, m10, m11, m12⟩ := hm
  obtain ⟨w1, w2, w3, w4, w5, w6, w7, w8, w9, w10, w11, w12, w13, w14, w15, w16⟩ := hw
  unfold encP
  exact bytes_app (uvB_bytes _ (by omega) (by omega)) (bytes_app (uvB_bytes _ (by omega) (by omega)) (bytes_app (uvB_bytes _ (by omega) (by omega)) (bytes_app (uvB_bytes _ (by omega) (by omega)) (bytes_app (uvB_bytes _ (by omega) (by omega)) (bytes_app (uvB_bytes _ (by omega) (by omega)) (bytes_app (fxB_bytes 4 _) (fxB_bytes 4 _)))))))
theorem encPs_bytes {gen next upto : Int} : ∀ (ps : List PN) (last : Int), 0 ≤ last → okFrom gen next upto last ps → ∀ x ∈ encPs last ps, 0 ≤ x ∧ x < 256
  | [], _, _, _, x, h => by cases h
  | p :: ps, last, h0, ⟨o1, o2, o3, o4⟩, x, h => bytes_app (encP_bytes o3 o2 o1 h0) (encPs_bytes ps p.hi o3.hi0 o4) x h
theorem encM_bytes {gen next upto : Int} {ps : List PN} (hm : mayM gen next upto ps) (hw : ∀ p ∈ ps, p.wf) (hu : 0 ≤ upto) : ∀ x ∈ encM gen next upto ps, 0 ≤ x ∧ x < 256 := by
  have hf := mayM_from hm hw
  obtain ⟨⟨g1, g2⟩, ⟨n1, n2⟩, u1, l1, _⟩ := hm
  unfold encM
  exact bytes_app (uvB_bytes _ (by omega) (by omega)) (bytes_app (uvB_bytes _ (by omega) (by omega)) (bytes_app (uvB_bytes _ (by omega) (by omega)) (bytes_app (uvB_bytes _ (by omega) (by omega)) (encPs_bytes ps 0 (by omega) hf))))
theorem mgM_bytes : ∀ x ∈ mgM, 0 ≤ x ∧ x < 256 := by decide
theorem mgB_str : mgB = strOfNums mgM := by decide
theorem opE_parts {b mg : ByteArray} (h : opE b mg = 0) : 12 ≤ b.size ∧ b.extract 0 8 = mg ∧ crN (b.extract 0 (b.size - 4)).data.toList = fxV b (b.size - 4) 4 := by
  unfold opE at h
  split at h
  · cases h
  · split at h
    · cases h
    · split at h
      · cases h
      · rename_i h1 h2 h3
        exact ⟨by omega, Decidable.not_not.1 h2, Decidable.not_not.1 h3⟩
theorem split_at (b : ByteArray) (n : Nat) (h : n ≤ b.size) : b = b.extract 0 n ++ b.extract n b.size := by
  rw [ByteArray.extract_append_extract, show min 0 n = 0 from by omega, show max n b.size = b.size from by omega, ByteArray.extract_zero_size]
theorem MoYes.seal {b : ByteArray} {gen next upto : Int} {ps : List PN} (h : MoYes b gen next upto ps) : sealM mgM (encM gen next upto ps) = b := by
  obtain ⟨h0, hr, hm, hw, hu⟩ := h
  obtain ⟨h12, hg, hc⟩ := opE_parts h0
  have hsz : (b.extract 0 (b.size - 4)).size = b.size - 4 := by rw [ByteArray.size_extract]; omega
  obtain ⟨f1, f2, -⟩ := rdM_form (by omega) hr
  have e1 := has_ext (encM_bytes hm hw hu) (by omega) f1
  rw [← f2] at e1
  have e2 : (b.extract 0 (b.size - 4)).extract 0 8 = strOfNums mgM := by
    rw [← mgB_str, ← hg, ByteArray.extract_extract]
    congr 1
    omega
  have e3 : b.extract 0 (b.size - 4) = strOfNums (mgM ++ encM gen next upto ps) := by
    rw [strApp, ← e1, ← e2]
    exact split_at _ 8 (by omega)
  have e4 := (fx4_iff b (b.size - 4) _ (by omega) (by unfold crN; omega)).1 hc
  unfold sealM
  rw [← e3, e4]
  exact (split_at b (b.size - 4) (by omega)).symm
theorem seal_parts {b : ByteArray} {l : List Int} (h : sealM mgM l = b) : b.size = 12 + l.length ∧ b.extract 0 (b.size - 4) = strOfNums (mgM ++ l) := by
  have hz : (strOfNums (mgM ++ l)).size = 8 + l.length := by rw [strOfNums_size, List.length_append]; rfl
  have hb : b.size = 12 + l.length := by
    rw [← h]
    unfold sealM
    rw [ByteArray.size_append, hz, strOfNums_size, fxB_len]
    omega
  refine ⟨hb, ?_⟩
  rw [hb, show 12 + l.length - 4 = (strOfNums (mgM ++ l)).size from by omega, ← h]
  unfold sealM
  exact ByteArray.extract_append_eq_left rfl
theorem seal_has {b : ByteArray} {l : List Int} (hl : ∀ x ∈ l, 0 ≤ x ∧ x < 256) (h : sealM mgM l = b) : HasAt (b.extract 0 (b.size - 4)) 8 l := by
  rw [(seal_parts h).2]
  intro i hi
  obtain ⟨g, hg⟩ := nums_get (mgM ++ l) (bytes_app mgM_bytes hl) (8 + i) (by rw [List.length_append]; show _ < 8 + _; omega)
  refine ⟨g, ?_⟩
  rw [hg, List.getElem_append_right (by show 8 ≤ _; omega)]
  congr 1
  show 8 + i - 8 = i
  omega
theorem MoYes.of {b : ByteArray} {gen next upto : Int} {ps : List PN} (h0 : opE b mgB = 0) (hm : mayM gen next upto ps) (hw : ∀ p ∈ ps, p.wf) (hu : 0 ≤ upto) (h : sealM mgM (encM gen next upto ps) = b) : MoYes b gen next upto ps := by
  have hp := (seal_parts h).1
  have hsz : (b.extract 0 (b.size - 4)).size = b.size - 4 := by rw [ByteArray.size_extract]; omega
  exact ⟨h0, rdM_back (by omega) hu hm hw (seal_has (encM_bytes hm hw hu) h) (by omega), hm, hw, hu⟩
theorem has_shift {b : ByteArray} {n : Nat} {l : List Int} {p : Nat} (hn : n ≤ b.size) (h : HasAt (b.extract 0 n) (8 + p) l) (h8 : 8 ≤ n) : HasAt (b.extract 8 n) p l := by
  intro i hi
  obtain ⟨g, hg⟩ := h i hi
  have g1 := g
  rw [ByteArray.size_extract] at g1
  refine ⟨by rw [ByteArray.size_extract]; omega, ?_⟩
  rw [← hg]
  simp only [ByteArray.getElem_extract]
  congr 3
  omega
theorem MoYes.has {b : ByteArray} {gen next upto : Int} {ps : List PN} (h : MoYes b gen next upto ps) : HasAt (b.extract 8 (b.size - 4)) 0 (encM gen next upto ps) := by
  have hp := (seal_parts h.seal).1
  exact has_shift (by omega) (seal_has (encM_bytes h.2.2.1 h.2.2.2.1 h.2.2.2.2) h.seal) (by omega)
end Go.Proofs.YtjceellpmopnkaaDoor
