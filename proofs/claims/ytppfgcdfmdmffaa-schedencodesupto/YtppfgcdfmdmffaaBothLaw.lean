import Derived.Test.YtppfgcdfmdmffaaSchP7
namespace Go.Proofs.Ytppfgcdfmdmffaa
open Go.ChangeShapes Go.WideShapes Go.ChangeAt Go.RowKit
set_option linter.unusedVariables false

theorem drP_one (b : UInt8) : drP (one b.toNat) = [(b.toNat : Int)] := by
  have key : ∀ x : Fin 256, drP (one x.val) = [(x.val : Int)] := by decide +kernel
  exact key ⟨b.toNat, b.toNat_lt⟩
theorem enc_dL : ∀ (n : Nat) (l : List UInt8), l.length ≤ n → encB (dL l) = l.map (fun x => (x.toNat : Int))
  | _, [], _ => rfl
  | _, [b], _ => by
    show drP (one b.toNat) ++ [] = _
    rw [drP_one]; rfl
  | n + 1, b :: c :: r, h => by
    simp only [List.length_cons] at h
    have e : ∀ (p : Int × Int × Int) (l : List (Int × Int × Int)), encB (p :: l) = drP p ++ encB l := fun p l => by unfold encB; rw [List.flatMap_cons]
    by_cases h1 : b.toNat / 32 = 1
    · have hd : dL (b :: c :: r) = (2, ((b.toNat % 32 : Nat) : Int), ((c.toNat + 1 : Nat) : Int)) :: dL r := by simp [dL, h1]
      have hb := b.toNat_lt
      have hc := c.toNat_lt
      rw [hd, e, enc_dL n r (by omega)]
      have hp : drP (2, ((b.toNat % 32 : Nat) : Int), ((c.toNat + 1 : Nat) : Int)) = [(b.toNat : Int), (c.toNat : Int)] := by
        show [(32 + ((b.toNat % 32 : Nat) : Int)) % 256, (((c.toNat + 1 : Nat) : Int) - 1) % 256] = _
        rw [show (32 + ((b.toNat % 32 : Nat) : Int)) % 256 = (b.toNat : Int) by omega, show (((c.toNat + 1 : Nat) : Int) - 1) % 256 = (c.toNat : Int) by omega]
      rw [hp]; rfl
    · have hd : dL (b :: c :: r) = one b.toNat :: dL (c :: r) := by simp [dL, h1]
      rw [hd, e, enc_dL n (c :: r) (by simp; omega), drP_one]; rfl
theorem str_map (s : ByteArray) : strOfNums (s.data.toList.map fun x => (x.toNat : Int)) = s := by
  obtain ⟨⟨l⟩⟩ := s
  unfold strOfNums
  congr 1
  simp only [List.map_map]
  have : ((fun n : Int => UInt8.ofNat n.toNat) ∘ fun x : UInt8 => (x.toNat : Int)) = id := by
    funext x; simp
  rw [this, List.map_id]
theorem encA_dL (s : ByteArray) : encA (dL s.data.toList) = .tuple #[.string s, .int .i64 0] := by
  have e : strOfNums (encB (dL s.data.toList)) = s := by rw [enc_dL _ _ (Nat.le_refl _), str_map]
  unfold encA
  rw [e, if_pos rfl]
theorem one_wf (b : Nat) (h : b < 256) : wfP (one b) := by
  unfold one
  split
  · exact ⟨⟨by simp only; omega, by simp only; omega⟩, ⟨by simp only; omega, by simp only; omega⟩⟩
  · split
    · exact ⟨⟨by simp only; omega, by simp only; omega⟩, ⟨by simp only; omega, by simp only; omega⟩⟩
    · split
      · exact ⟨⟨by simp only; omega, by simp only; omega⟩, ⟨by simp only; omega, by simp only; omega⟩⟩
      · split
        · exact ⟨⟨by simp only; omega, by simp only; omega⟩, ⟨by simp only; omega, by simp only; omega⟩⟩
        · split
          · exact ⟨⟨by simp only; omega, by simp only; omega⟩, ⟨by simp only; omega, by simp only; omega⟩⟩
          · exact ⟨⟨by simp only; omega, by simp only; omega⟩, ⟨by simp only; omega, by simp only; omega⟩⟩
theorem dL_wf : ∀ (n : Nat) (l : List UInt8), l.length ≤ n → ∀ p ∈ dL l, wfP p
  | _, [], _, p, hp => by simp [dL] at hp
  | _, [b], _, p, hp => by
    simp [dL] at hp
    rw [hp]; exact one_wf _ b.toNat_lt
  | n + 1, b :: c :: r, h, p, hp => by
    simp only [List.length_cons] at h
    by_cases h1 : b.toNat / 32 = 1
    · have hd : dL (b :: c :: r) = (2, ((b.toNat % 32 : Nat) : Int), ((c.toNat + 1 : Nat) : Int)) :: dL r := by simp [dL, h1]
      rw [hd] at hp
      have hc := c.toNat_lt
      rcases List.mem_cons.1 hp with e | e
      · rw [e]
        exact ⟨⟨by simp only; omega, by simp only; omega⟩, ⟨by simp only; omega, by simp only; omega⟩⟩
      · exact dL_wf n r (by omega) p e
    · have hd : dL (b :: c :: r) = one b.toNat :: dL (c :: r) := by simp [dL, h1]
      rw [hd] at hp
      rcases List.mem_cons.1 hp with e | e
      · rw [e]; exact one_wf _ b.toNat_lt
      · exact dL_wf n (c :: r) (by simp; omega) p e
set_option maxRecDepth 100000 in
set_option maxHeartbeats 6400000 in
theorem both_walk (s : ByteArray) (a : Value) (ps : List (Int × Int × Int)) (w : World) (hs : s.size ≤ 1048576) (ha : SeesP w w.heap.size a ps) (hl : ps.length ≤ 1048576) (hp : ∀ p ∈ ps, wfP p) :
    Calls Try.prog 3 #[.string s, a] w fun e w' => e = .returned (.bool true) ∧ Below w.heap.size w w' := by
  have HA : Hid (SeesP w w.heap.size a ps) := ha
  obtain ⟨ao, cap, rfl, hl1, hc1, hs1⟩ := ha
  clear hs1
  have hdl := dL_len _ s.data.toList (Nat.le_refl _)
  rw [len_list] at hdl
  have HE1 : Hid (∀ W v, ownP W w.heap.size v (dL s.data.toList) → Calls Try.prog 8 #[v] W fun e w' => e = .returned (.tuple #[.string s, .int .i64 0]) ∧ Below W.heap.size W w') := fun W v ho => (encode_any v _ W.heap.size W (Nat.le_refl _) (ho.seesAll (by omega)) (dL_wf _ _ (Nat.le_refl _)) (by omega)).mono fun e w' ⟨he, hb⟩ => ⟨by rw [he, encA_dL], hb⟩
  have HE2 : Hid (∀ W, Below w.heap.size w W → Calls Try.prog 8 #[.slice ao ps.length cap] W fun e w' => e = .returned (encA ps) ∧ Below w.heap.size W w') := fun W hW => encode_any _ ps w.heap.size W hW.size (HA.out.later hW) hp (by omega)
  have hD := decode_any s w (by omega)
  have HD : Hid (∀ _ : Unit, _) := fun _ => hD
  have HL : Hid (ps.length ≤ 1048576) := hl
  clear hD hp
  have g1 : ¬ (s.size : Int) < ((dL s.data.toList).length : Int) := by omega
  have g2 : ¬ 2 * ((dL s.data.toList).length : Int) < (s.size : Int) := by omega
  go_enter Try.func3, Try.ntmps3
  go_wp2_with fail
  refine (HD.out ()).mono ?_
  rintro e w1 ⟨v, rfl, ho, hb⟩
  have HO1 : Hid (ownP w1 w.heap.size v (dL s.data.toList)) := ho
  have HB1 : Hid (Below w.heap.size w w1) := hb
  have hlen := ho.len
  clear ho hb HD
  generalize (dL s.data.toList).length = n at *
  go_wp2_with fail
  refine (HE1.out w1 _ HO1.out).mono ?_
  rintro e w2 ⟨rfl, hb⟩
  have HB2 : Hid (Below w.heap.size w w2) := HB1.out.trans (hb.mono HB1.out.size)
  clear hb HB1 HO1 HE1 hlen g1 g2
  go_wp2_with fail
  refine (HE2.out w2 HB2.out).mono ?_
  rintro e w3 ⟨rfl, hb⟩
  have HB3 : Hid (Below w.heap.size w w3) := HB2.out.trans hb
  clear hb HB2 HE2
  by_cases hc : dL (strOfNums (encB ps)).data.toList = ps
  · have hE : encA ps = .tuple #[.string (strOfNums (encB ps)), .int .i64 0] := by unfold encA; rw [if_pos hc]
    rw [hE]
    have hel := encB_len ps
    have hsz := strOfNums_size (encB ps)
    have HD2 : Hid (∀ W, _) := fun W => decode_any (strOfNums (encB ps)) W (by omega)
    clear hE hel hsz
    rw [hc] at HD2
    clear hc
    generalize strOfNums (encB ps) = t at *
    go_wp2_with fail
    refine (HD2.out w3).mono ?_
    rintro e w4 ⟨v4, rfl, ho, hb⟩
    have HB4 : Hid (Below w.heap.size w w4) := HB3.out.trans (hb.mono HB3.out.size)
    have HS : Hid (∀ _ : Unit, _) := fun _ => samePicks_any v4 (.slice ao ps.length cap) ps ps w4.heap.size w4 (Nat.le_refl _) (ho.seesAll (by have := HL.out; omega)) ((HA.out.later HB4.out).mono HB4.out.size)
    clear ho hb HB3 HD2
    go_wp2_with fail
    refine (HS.out ()).mono ?_
    rintro e w5 ⟨rfl, hb⟩
    have HB5 : Hid (Below w.heap.size w w5) := HB4.out.trans (hb.mono HB4.out.size)
    clear hb HS HB4
    go_wp2
    go_ret
    exact ⟨by simp, HB5.out⟩
  · have hE : encA ps = .tuple #[.string ⟨#[]⟩, .int .i64 33] := by unfold encA; rw [if_neg hc]
    rw [hE]
    clear hE hc
    go_wp2
    go_ret
    exact ⟨rfl, HB3.out⟩
theorem wfP_of {ps : List (Int × Int × Int)} (h : ∀ v ∈ ps, (Lit.int .i64 v.2.2).wf = true ∧ (Lit.int .i64 v.1).wf = true ∧ (Lit.int .i64 v.2.1).wf = true) : ∀ p ∈ ps, wfP p := by
  intro p hp
  obtain ⟨h1, _, h3⟩ := h p hp
  have e1 := bounds_i64 h1
  have e3 := bounds_i64 h3
  exact ⟨⟨by omega, by omega⟩, ⟨by omega, by omega⟩⟩
end Go.Proofs.Ytppfgcdfmdmffaa
