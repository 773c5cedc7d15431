import Derived.Test.YtlidkdnfibfnfaaGreatDoorLxS12
namespace Go.Proofs.YtlidkdnfibfnfaaGreatDoor
set_option linter.unusedSimpArgs false
open Go.ChangeShapes Go.WideShapes Go.ChangeAt Go.RowKit
set_option linter.unusedVariables false
set_option maxRecDepth 100000
theorem cut_apo (s : ByteArray) (p : Nat) (hp : p ≤ s.size) : (s.size ≤ apoP s p ∧ Lib.cut (s.extract p s.size).data.toList [39] = ((s.extract p s.size).data.toList, [], false)) ∨
    (apoP s p < s.size ∧ p ≤ apoP s p ∧ ∃ t, Lib.cut (s.extract p s.size).data.toList [39] = (digsL s p (apoP s p), t, true)) := by
  have h := apo_ix s p hp
  have hge := apoP_ge s p
  rw [rest_list]
  unfold Lib.cut
  rw [Lib.index_one]
  have hg := Lib.indexByte_ge (s.data.toList.drop p) 39
  have hle : Lib.indexByte (s.data.toList.drop p) 39 = -1 ∨ Lib.indexByte (s.data.toList.drop p) 39 < ((s.data.toList.drop p).length : Int) := by
    by_cases hh : Lib.indexByte (s.data.toList.drop p) 39 = -1
    · exact .inl hh
    · have e : Lib.indexByte (s.data.toList.drop p) 39 = ((Lib.indexByte (s.data.toList.drop p) 39).toNat : Int) := by omega
      have := (List.getElem?_eq_some_iff.1 (Lib.indexByte_some e).1).1
      right
      omega
  generalize Lib.indexByte (s.data.toList.drop p) 39 = r at *
  by_cases hr : r = -1
  · rw [if_pos hr] at h
    refine .inl ⟨by omega, ?_⟩
    rw [if_neg (by omega)]
  · rw [if_neg hr] at h
    rcases hle with hle | hle
    · exact absurd hle hr
    rw [List.length_drop] at hle
    have hl : s.data.toList.length = s.size := Array.length_toList
    refine .inr ⟨by omega, hge, ?_⟩
    rw [if_pos (by omega)]
    refine ⟨(s.data.toList.drop p).drop (r.toNat + 1), ?_⟩
    unfold digsL
    rw [show apoP s p - p = r.toNat from by omega]
    rfl
theorem made_nums (n : Nat) : madeCells #[Value.int .u8 0] n = ((List.replicate n (0 : Int)).map (Value.int .u8)).toArray := by
  apply Array.ext'
  simp only [madeCells]
  apply List.ext_getElem
  · simp
  · intro i h1 h2
    simp [Nat.mod_one]
theorem made_MB (w : World) (n : Nat) (hn : n ≤ 65536) : ownMB (w.alloc (.cells (madeCells #[Value.int .u8 0] n) 5)) w.heap.size (.slice (some ⟨w.heap.size, 0, none⟩) n n) (List.replicate n 0) := by
  have hl : ((List.replicate n (0 : Int)).map (Value.int .u8)).length = n := by simp
  refine ⟨w.heap.size, n, ((List.replicate n (0 : Int)).map (Value.int .u8)).toArray, (0, 0), by rw [hl], Nat.le_refl _, ?_, .inl rfl, by rw [hl]; exact Nat.le_refl _, by unfold maxLen; omega, by simp, by simp⟩
  rw [made_nums]
  exact heap_alloc_new w _
theorem mkB (n : Nat) (hn : n ≤ 65536) (w : World) : (Instr.makeSlice 51 (.int .i64 (n : Int)) (.int .i64 (n : Int))).run Tryz.prog w = .ok (.slice (some ⟨w.heap.size, 0, none⟩) n n) (w.alloc (.cells (madeCells #[Value.int .u8 0] n) 5)) := by
  obtain ⟨i, hi, hz0, hz1, hz2⟩ := info_parts infoB
  have := run_make (P := Tryz.prog) w 51 5 i (.int .u8 0) (by kernel_rfl) hi hz0 .i64 .i64 n n (by omega) (Int.le_refl _) (by rw [hz2]; omega) (by omega)
  simp only [Int.toNat_natCast, hz1, Nat.mul_one] at this
  exact this
theorem or_hexF : ∀ x y : Fin 16, bits .or .i64 ((x.val : Int) * 16) (y.val : Int) % 256 = ((16 * x.val + y.val : Nat) : Int) := by decide +kernel
theorem or_hex (x y : Nat) (hx : x < 16) (hy : y < 16) : bits .or .i64 ((x : Int) * 16) (y : Int) % 256 = ((16 * x + y : Nat) : Int) := or_hexF ⟨x, hx⟩ ⟨y, hy⟩
theorem set_next (acc : List UInt8) (k n : Nat) (m : Nat) (h : acc.length = k) (hk : k < n) (hm : m < 256) : (numsL acc ++ List.replicate (n - k) (0 : Int)).set k (m : Int) = numsL (acc ++ [UInt8.ofNat m]) ++ List.replicate (n - (k + 1)) 0 := by
  have hl : (numsL acc).length = k := by unfold numsL; rw [List.length_map, h]
  rw [List.set_append_right _ _ (by omega), hl, Nat.sub_self, show n - k = (n - (k + 1)) + 1 from by omega, List.replicate_succ, List.set_cons_zero, numsL_app, List.append_assoc]
  have e : ((UInt8.ofNat m).toNat : Int) = (m : Int) := by rw [UInt8.toNat_ofNat']; omega
  rw [e]
  rfl
set_option maxHeartbeats 6400000 in
theorem hexTT (R : Nat) (s : ByteArray) (p : Nat) (w : World) (h : Sc w R s p) (hs : s.size ≤ 65536) (hp : p + 2 ≤ s.size) (hg : GX w) (hR : 11 ≤ R) :
    Calls Tryz.prog 27 #[.pointer (some ⟨R, 0, none⟩)] w fun e w' => TokR R s p (hexT s p) e w' ∧ Fr R w w' := by
  have HT : Hid (TkS R s w (w.alloc (.cells tkZ 30)) p) := TkS.new h
  have HG : Hid (GX w) := hg
  have c1 := HT.out.sc.cell1
  have hes : (s.extract p s.size).size = s.size - p := by rw [ByteArray.size_extract]; omega
  have HX : Hid ((s.extract p s.size).extract 2 (s.size - p) = s.extract (p + 2) s.size) := by
    show (s.extract p s.size).extract 2 (s.size - p) = s.extract (p + 2) s.size
    rw [ByteArray.extract_extract]
    congr 1
    omega
  clear h hg
  go_enter Tryz.func27, Tryz.ntmps27
  go_wp2_with fail
  refine (restT R s p _ HT.out.sc hs (by omega)).mono ?_
  rintro e w1 ⟨rfl, hd⟩
  have HT1 : Hid (TkS R s w w1 p) := HT.out.next (drewN_fr hd) (HT.out.sc.step hd)
  clear hd HT c1
  go_wp2_with fail
  rw [HX.out]
  obtain ⟨m, hm⟩ := (HT1.out.gx HG.out hR).mx
  refine (Tryz.strings_Cut (s.extract (p + 2) s.size) ⟨#[39]⟩ m w1 (by rw [ByteArray.size_extract]; omega) hm).mono ?_
  rintro e w2 ⟨rfl, hd⟩
  rw [show (ByteArray.mk #[39]).data.toList = [39] from rfl]
  have HT2 : Hid (TkS R s w w2 p) := HT1.out.next (drewN_fr hd) (HT1.out.sc.step hd)
  clear hd hm HT1 HX
  rcases cut_apo s (p + 2) hp with ⟨ha, hc⟩ | ⟨ha, hge, t, hc⟩
  · rw [hc]
    dsimp only
    have HE : Hid (hexT s p = .error 151) := by show hexT s p = .error 151; unfold hexT; rw [if_pos ha]
    clear ha hc
    generalize (ByteArray.mk (s.extract (p + 2) s.size).data.toList.toArray) = V at *
    generalize (ByteArray.mk (#[] : Array UInt8)) = V2 at *
    go_wp2
    exact ⟨rfl, by unfold TokR; rw [HE.out]; rfl, HT2.out.fr⟩
  · rw [hc]
    dsimp only
    have HD : Hid ((ByteArray.mk (digsL s (p + 2) (apoP s (p + 2))).toArray) = s.extract (p + 2) (apoP s (p + 2))) := by
      show _ = _
      apply ByteArray.ext
      apply Array.ext'
      rw [digsL_ext]
    rw [HD.out]
    have HX2 : Hid (hexT s p = if (apoP s (p + 2) - (p + 2)) % 2 ≠ 0 then .error 154 else match hexP s (apoP s (p + 2)) (p + 2) [] with | none => .error 154 | some l => if 4096 < l.length then .error 4 else .ok (⟨4, ⟨l.toArray⟩, 0, p⟩, apoP s (p + 2) + 1)) := by
      show hexT s p = _
      unfold hexT
      rw [if_neg (by omega)]
      rfl
    clear hc HD
    have hdz : (s.extract (p + 2) (apoP s (p + 2))).size = apoP s (p + 2) - (p + 2) := by rw [ByteArray.size_extract]; omega
    generalize hA : apoP s (p + 2) = A at *
    have HDb : Hid (∀ i, p + 2 + i < A → ∃ h : i < (s.extract (p + 2) A).size, (s.extract (p + 2) A)[i].toNat = bA s (p + 2 + i)) := fun i hi => by
      have h1 : i < (s.extract (p + 2) A).size := by omega
      refine ⟨h1, ?_⟩
      rw [ByteArray.getElem_extract, bA_of (by omega)]
    generalize hDD : s.extract (p + 2) A = D at *
    generalize (ByteArray.mk t.toArray) = V2 at *
    clear hA hDD
    obtain ⟨M, hM⟩ : ∃ M, A = p + 2 + M := ⟨A - (p + 2), by omega⟩
    subst hM
    have hdz2 : D.size = M := by omega
    rw [show p + 2 + M - (p + 2) = M from by omega] at HX2
    clear hdz
    by_cases hodd : M % 2 = 0
    · obtain ⟨n, hn⟩ : ∃ n, M = 2 * n := ⟨M / 2, by omega⟩
      have HMn : Hid (∀ _ : Unit, M = 2 * n) := fun _ => hn
      have hr : ((M : Int) % 2 != 0) = false := by simp; omega
      have hr2 : (M : Int) % 2 = 0 := by omega
      have hq : (M : Int) / 2 = (n : Int) := by omega
      have HX3 : Hid (hexT s p = match hexP s (p + 2 + M) (p + 2) [] with | none => .error 154 | some l => if 4096 < l.length then .error 4 else .ok (⟨4, ⟨l.toArray⟩, 0, p⟩, p + 2 + M + 1)) := HX2.out.trans (if_neg (fun h => h hodd))
      have hn6 : n ≤ 65536 := by omega
      have hmk := mkB n hn6
      have HMk : Hid (ownMB (w2.alloc (.cells (madeCells #[Value.int .u8 0] n) 5)) w2.heap.size (.slice (some ⟨w2.heap.size, 0, none⟩) n n) (List.replicate n 0)) := made_MB w2 n hn6
      have HT3 : Hid (TkS R s w (w2.alloc (.cells (madeCells #[Value.int .u8 0] n) 5)) p) := HT2.out.below ((Below.refl _ _).alloc (Nat.le_refl _) _)
      have hg2 : w.heap.size < w2.heap.size := HT2.out.box
      clear hn hodd HX2
      go_wp2_with fail
      clear hmk hr hr2 hq
      generalize hg : w2.heap.size = g at *
      generalize w2.alloc (.cells (madeCells #[Value.int .u8 0] n) 5) = W3 at *
      go_loopw [8, 9, 10, 43] (fun _ _ _ x wr => ∃ (k : Nat) (acc : List UInt8), k ≤ n ∧ x = .int .i64 (k : Int) ∧ acc.length = k ∧ hexP s (p + 2 + M) (p + 2) [] = hexP s (p + 2 + M) (p + 2 + 2 * k) acc ∧ TkS R s w wr p ∧ ownMB wr g (.slice (some ⟨g, 0, none⟩) n n) (numsL acc ++ List.replicate (n - k) 0)) (fun _ _ _ x _ => n - (intOf x).toNat)
      case atStart => exact ⟨0, [], by omega, rfl, rfl, rfl, HT3.out, HMk.out⟩
      case round =>
        obtain ⟨k, acc, hk, rfl, hal, hhx, ht, ho⟩ := hrel
        have HHx : Hid (hexP s (p + 2 + M) (p + 2) [] = hexP s (p + 2 + M) (p + 2 + 2 * k) acc) := hhx
        have HTk : Hid (TkS R s w wr p) := ht
        have HO : Hid (ownMB wr g (.slice (some ⟨g, 0, none⟩) n n) (numsL acc ++ List.replicate (n - k) 0)) := ho
        have HAl : Hid (∀ _ : Unit, acc.length = k) := fun _ => hal
        clear hhx ht ho hal HMk HT3 HT2
        by_cases hkl : k < n
        · have hki : (k : Int) < (n : Int) := by omega
          have hM := HMn.out ()
          obtain ⟨j, hj⟩ : ∃ j, j = 2 * k := ⟨_, rfl⟩
          obtain ⟨l, hl⟩ : ∃ l, l = 2 * k + 1 := ⟨_, rfl⟩
          obtain ⟨h1, e1⟩ := HDb.out j (by omega)
          obtain ⟨h2, e2⟩ := HDb.out l (by omega)
          have HE1 : Hid (D[j].toNat = bA s (p + 2 + 2 * k)) := by rw [← hj]; exact e1
          have HE2 : Hid (D[l].toNat = bA s (p + 2 + 2 * k + 1)) := by show D[l].toNat = _; rw [e2, hl]; rfl
          have HV1 : Hid (∀ W : World, _) := fun W => hexValT D[j].toNat W D[j].toNat_lt
          have HV2 : Hid (∀ W : World, _) := fun W => hexValT D[l].toNat W D[l].toNat_lt
          have hw1 : IntKind.i64.wrap (2 * (k : Int)) = (j : Int) := by rw [IntKind.wrap_i64]; omega
          have hw2 : IntKind.i64.wrap ((j : Int) + 1) = (l : Int) := by rw [IntKind.wrap_i64]; omega
          have i1 : (j : Int) < (M : Int) := by omega
          have i2 : (l : Int) < (M : Int) := by omega
          have j1 : j < M := by omega
          have j2 : l < M := by omega
          clear e1 e2 hM hj hl
          go_wp2_with fail
          (refine wp_region_held_drew (S := (fun _ => True)) (by kernel_rfl) trivial (fun hHeld => ?_); simp only [List.size_toArray, List.length_cons, List.length_nil, Nat.reduceAdd, Array.replicate_succ, Array.replicate_zero, List.push_toArray, List.append_toArray, List.nil_append, List.cons_append])
          (refine tk0 (v := ?_) (by kernel_rfl) (by kernel_rfl) (by kernel_rfl) (fun _ _ _ h => h) (Or.inl ⟨by rfl, ?_⟩) (by assumption) ?_; rotate_left; (focus (intro w hSw; (try dsimp only at hSw); go_simp; (try first | (rw [dif_pos (by omega)]; simp only [Result.andThen_ok]) | rw [if_pos (by omega)]); (try with_reducible rfl); done)); try simp only [Act.put, List.setIfInBounds_toArray, List.set_cons_zero, List.set_cons_succ])
          (refine tk1 (v := ?_) (by kernel_rfl) (by kernel_rfl) (by kernel_rfl) (fun _ _ _ h => h) (Or.inl ⟨by rfl, ?_⟩) (by assumption) ?_; rotate_left; (focus (intro w hSw; (try dsimp only at hSw); go_simp; (try first | (rw [dif_pos (by omega)]; simp only [Result.andThen_ok]) | rw [if_pos (by omega)]); (try with_reducible rfl); done)); try simp only [Act.put, List.setIfInBounds_toArray, List.set_cons_zero, List.set_cons_succ])
          (refine tk2 (v := ?_) (by kernel_rfl) (by kernel_rfl) (by kernel_rfl) (fun _ _ _ h => h) (Or.inl ⟨by rfl, ?_⟩) (by assumption) ?_; rotate_left; (focus (intro w hSw; (try dsimp only at hSw); go_simp; (try first | (rw [dif_pos (by omega)]; simp only [Result.andThen_ok]) | rw [if_pos (by omega)]); (try with_reducible rfl); done)); try simp only [Act.put, List.setIfInBounds_toArray, List.set_cons_zero, List.set_cons_succ])
          (refine tk3 (v := ?_) (by kernel_rfl) (by kernel_rfl) (by kernel_rfl) (fun _ _ _ h => h) (Or.inl ⟨by rfl, ?_⟩) (by assumption) ?_; rotate_left; (focus (intro w hSw; (try dsimp only at hSw); go_simp; (try first | (rw [dif_pos (by omega)]; simp only [Result.andThen_ok]) | rw [if_pos (by omega)]); (try with_reducible rfl); done)); try simp only [Act.put, List.setIfInBounds_toArray, List.set_cons_zero, List.set_cons_succ])
          (refine tk5 (v := ?_) (by kernel_rfl) (by kernel_rfl) (by kernel_rfl) (fun _ _ _ h => h) (Or.inl ⟨by rfl, ?_⟩) (by assumption) ?_; rotate_left; (focus (intro w hSw; (try dsimp only at hSw); go_simp; (try first | (rw [dif_pos (by omega)]; simp only [Result.andThen_ok]) | rw [if_pos (by omega)]); (try with_reducible rfl); done)); try simp only [Act.put, List.setIfInBounds_toArray, List.set_cons_zero, List.set_cons_succ])
          (refine tk6 (v := ?_) (by kernel_rfl) (by kernel_rfl) (by kernel_rfl) (fun _ _ _ h => h) (Or.inl ⟨by rfl, ?_⟩) (by assumption) ?_; rotate_left; (focus (intro w hSw; (try dsimp only at hSw); go_simp; (try first | (rw [dif_pos (by omega)]; simp only [Result.andThen_ok]) | rw [if_pos (by omega)]); (try with_reducible rfl); done)); try simp only [Act.put, List.setIfInBounds_toArray, List.set_cons_zero, List.set_cons_succ])
          (refine tk7 (v := ?_) (by kernel_rfl) (by kernel_rfl) (by kernel_rfl) (fun _ _ _ h => h) (Or.inl ⟨by rfl, ?_⟩) (by assumption) ?_; rotate_left; (focus (intro w hSw; (try dsimp only at hSw); go_simp; (try first | (rw [dif_pos (by omega)]; simp only [Result.andThen_ok]) | rw [if_pos (by omega)]); (try with_reducible rfl); done)); try simp only [Act.put, List.setIfInBounds_toArray, List.set_cons_zero, List.set_cons_succ])
          (refine tk8 (v := ?_) (by kernel_rfl) (by kernel_rfl) (by kernel_rfl) (fun _ _ _ h => h) (Or.inl ⟨by rfl, ?_⟩) (by assumption) ?_; rotate_left; (focus (intro w hSw; (try dsimp only at hSw); go_simp; (try first | (rw [dif_pos (by omega)]; simp only [Result.andThen_ok]) | rw [if_pos (by omega)]); (try with_reducible rfl); done)); try simp only [Act.put, List.setIfInBounds_toArray, List.set_cons_zero, List.set_cons_succ])
          (refine tk9 (v := ?_) (by kernel_rfl) (by kernel_rfl) (by kernel_rfl) (fun _ _ _ h => h) (Or.inl ⟨by rfl, ?_⟩) (by assumption) ?_; rotate_left; (focus (intro w hSw; (try dsimp only at hSw); go_simp; (try first | (rw [dif_pos (by omega)]; simp only [Result.andThen_ok]) | rw [if_pos (by omega)]); (try with_reducible rfl); done)); try simp only [Act.put, List.setIfInBounds_toArray, List.set_cons_zero, List.set_cons_succ])
          (refine wpAnyH_ready (rs := [4]) (by kernel_rfl) (by simp) ?_; refine ar4 (fun K hK => ?_) AllReadyH.nil; go_simp)
          refine (HV1.out _).mono ?_
          rintro e w3 ⟨rfl, rfl⟩
          (refine hK.out _ _ trivial (fun hHeld => ?_); clear hK K; try simp only [Act.put, List.setIfInBounds_toArray, List.set_cons_zero, List.set_cons_succ])
          (refine wpAnyH_ready (rs := [10]) (by kernel_rfl) (by simp) ?_; refine ar10 (fun K hK => ?_) AllReadyH.nil; go_simp)
          refine (HV2.out _).mono ?_
          rintro e w4 ⟨rfl, rfl⟩
          (refine hK.out _ _ trivial (fun hHeld => ?_); clear hK K; try simp only [Act.put, List.setIfInBounds_toArray, List.set_cons_zero, List.set_cons_succ])
          (refine tk11 (v := ?_) (by kernel_rfl) (by kernel_rfl) (by kernel_rfl) (fun _ _ _ h => h) (Or.inl ⟨by rfl, ?_⟩) (by assumption) ?_; rotate_left; (focus (intro w hSw; (try dsimp only at hSw); go_simp; (try first | (rw [dif_pos (by omega)]; simp only [Result.andThen_ok]) | rw [if_pos (by omega)]); (try with_reducible rfl); done)); try simp only [Act.put, List.setIfInBounds_toArray, List.set_cons_zero, List.set_cons_succ])
          (refine tk12 (v := ?_) (by kernel_rfl) (by kernel_rfl) (by kernel_rfl) (fun _ _ _ h => h) (Or.inl ⟨by rfl, ?_⟩) (by assumption) ?_; rotate_left; (focus (intro w hSw; (try dsimp only at hSw); go_simp; (try first | (rw [dif_pos (by omega)]; simp only [Result.andThen_ok]) | rw [if_pos (by omega)]); (try with_reducible rfl); done)); try simp only [Act.put, List.setIfInBounds_toArray, List.set_cons_zero, List.set_cons_succ])
          refine wpAnyH_done (by kernel_rfl) ?_ _
          have HT4 : Hid (TkS R s w wr.drew p) := HTk.out.next (Fr.refl _ _).drew HTk.out.sc.drew
          have HO4 : Hid (ownMB wr.drew g (.slice (some ⟨g, 0, none⟩) n n) (numsL acc ++ List.replicate (n - k) 0)) := HO.out
          clear HTk HO HV1 HV2
          generalize wr.drew = W4 at *
          have b1 := hexV_le D[j].toNat
          have b2 := hexV_le D[l].toNat
          have HQ1 : Hid (hexV (bA s (p + 2 + 2 * k)) = hexV D[j].toNat) := by show hexV (bA s (p + 2 + 2 * k)) = _; rw [HE1.out]
          have HQ2 : Hid (hexV (bA s (p + 2 + 2 * k + 1)) = hexV D[l].toNat) := by show hexV (bA s (p + 2 + 2 * k + 1)) = _; rw [HE2.out]
          generalize hexV D[j].toNat = x at *
          generalize hexV D[l].toNat = y at *
          clear HE1 HE2 hw1 hw2
          by_cases hx : x < 0
          · have HE : Hid (hexT s p = .error 154) := by
              show hexT s p = .error 154
              rw [HX3.out, HHx.out, hexP_bad (by have := HMn.out (); omega) (.inl (by rw [HQ1.out]; exact hx))]
            go_wp2
            exact ⟨rfl, by unfold TokR; rw [HE.out]; rfl, HT4.out.fr⟩
          · by_cases hy : y < 0
            · have HE : Hid (hexT s p = .error 154) := by
                show hexT s p = .error 154
                rw [HX3.out, HHx.out, hexP_bad (by have := HMn.out (); omega) (.inr (by rw [HQ2.out]; exact hy))]
              go_wp2
              exact ⟨rfl, by unfold TokR; rw [HE.out]; rfl, HT4.out.fr⟩
            · obtain ⟨x', hx'⟩ : ∃ x' : Nat, x = (x' : Int) := ⟨x.toNat, by omega⟩
              obtain ⟨y', hy'⟩ : ∃ y' : Nat, y = (y' : Int) := ⟨y.toNat, by omega⟩
              subst hx' hy'
              have hcl := HO4.out
              have hlen : (numsL acc ++ List.replicate (n - k) (0 : Int)).length = n := by
                have := HAl.out ()
                unfold numsL
                rw [List.length_append, List.length_map, List.length_replicate]
                omega
              have hcell : W4.cell? ⟨g, k, none⟩ = some (.int .u8 ((numsL acc ++ List.replicate (n - k) (0 : Int))[k]'(by omega))) := by
                have := ownsM.cells (g := g) (n := n) (cap := n) hcl k (.int .u8 ((numsL acc ++ List.replicate (n - k) (0 : Int))[k]'(by omega))) (by rw [List.getElem?_map, List.getElem?_eq_getElem (by omega)]; rfl)
                rwa [show (⟨g, 0, none⟩ : Addr).add k = ⟨g, k, none⟩ from by unfold Addr.add; split <;> simp_all] at this
              have hfree := ownsM.free (g := g) (n := n) (cap := n) hcl k (by rw [List.length_map]; omega)
              clear hcl
              generalize (numsL acc ++ List.replicate (n - k) (0 : Int))[k]'(by omega) = old at *
              clear hlen
              have hRg : R < g := Nat.lt_trans HT4.out.lt hg2
              obtain ⟨z, hz⟩ : ∃ z, z = 16 * x' + y' := ⟨_, rfl⟩
              have HNx : Hid (hexP s (p + 2 + M) (p + 2) [] = hexP s (p + 2 + M) (p + 2 + 2 * (k + 1)) (acc ++ [UInt8.ofNat z])) := by
                show hexP s (p + 2 + M) (p + 2) [] = _
                have hM := HMn.out ()
                rw [HHx.out, hexP_ok (by omega) (fun h => by rw [HQ1.out, HQ2.out] at h; omega), HQ1.out, HQ2.out, Int.toNat_natCast, Int.toNat_natCast, hz]
                rfl
              have hor := or_hex x' y' (by omega) (by omega)
              rw [← hz] at hor
              have HO5 : Hid (ownMB (W4.setCell ⟨g, k, none⟩ (.int .u8 (z : Int))) g (.slice (some ⟨g, 0, none⟩) n n) (numsL (acc ++ [UInt8.ofNat z]) ++ List.replicate (n - (k + 1)) 0)) := by
                have h1 := HO4.out.set k (z : Int)
                rwa [set_next acc k n z (HAl.out ()) hkl (by omega)] at h1
              have HT5 : Hid (TkS R s w (W4.setCell ⟨g, k, none⟩ (.int .u8 (z : Int))) p) := by
                have h := HT4.out
                exact ⟨h.sc.other (p := ⟨g, k, none⟩) _ (by show R ≠ g; omega), h.fr.setOwn (p := ⟨g, k, none⟩) (by show R ≤ g; omega) (by show w.heap.size ≤ g; omega) _, (Below.heap_setCell _ _ _ _ (by show w.heap.size ≠ g; omega)).trans h.bx, h.lt⟩
              have HLn : Hid (∀ _ : Unit, (acc ++ [UInt8.ofNat z]).length = k + 1) := fun _ => by rw [List.length_append, HAl.out ()]; rfl
              clear hz
              go_wp2
              go_roundw
              case rel => exact ⟨k + 1, _, by omega, by go_num, HLn.out (), HNx.out, HT5.out, HO5.out⟩
              case measure => simp [intOf]; omega
        · have hki : ¬ (k : Int) < (n : Int) := by omega
          have hke : k = n := by omega
          subst hke
          have hRg : R < g := Nat.lt_trans HTk.out.lt hg2
          have hM := HMn.out ()
          have HHe : Hid (hexP s (p + 2 + M) (p + 2) [] = some acc) := by
            show hexP s (p + 2 + M) (p + 2) [] = some acc
            rw [HHx.out, hexP_end (by omega)]
          have HXe : Hid (hexT s p = if 4096 < acc.length then .error 4 else .ok (⟨4, ⟨acc.toArray⟩, 0, p⟩, p + 2 + M + 1)) := by
            show hexT s p = _
            rw [HX3.out, HHe.out]
          have HO2 : Hid (ownMB wr g (.slice (some ⟨g, 0, none⟩) k k) (numsL acc)) := by
            have h := HO.out
            rwa [Nat.sub_self, List.replicate_zero, List.append_nil] at h
          have c1 := HTk.out.sc.cell1
          have f1 := HTk.out.sc.free 1
          have hpe : (p : Int) + (3 + (M : Int)) = ((p + 2 + M + 1 : Nat) : Int) := by omega
          have HT5 : Hid (TkS R s w (wr.setCell ⟨R, 1, none⟩ (.int .i64 ((p : Int) + (3 + (M : Int))))) (p + 2 + M + 1)) := by
            have h1 := HTk.out.sc.move (p + 2 + M + 1)
            rw [← hpe] at h1
            exact HTk.out.next ((Fr.refl R wr).setCell (p := ⟨R, 1, none⟩) rfl _) h1
          have hcv : (convert 51 9 (.slice (some ⟨g, 0, none⟩) k k)).run Tryz.prog (wr.setCell ⟨R, 1, none⟩ (.int .i64 ((p : Int) + (3 + (M : Int))))) = .ok (.string ⟨acc.toArray⟩) (wr.setCell ⟨R, 1, none⟩ (.int .i64 ((p : Int) + (3 + (M : Int))))) := by
            have h1 : ownMB (wr.setCell ⟨R, 1, none⟩ (.int .i64 ((p : Int) + (3 + (M : Int))))) g (.slice (some ⟨g, 0, none⟩) k k) (numsL acc) := ownsM.same HO2.out (fun i hi hB => Below.heap_setCell _ _ _ _ (by show i ≠ R; omega))
            have h2 := h1.conv
            rwa [numsL_str] at h2
          have hz : (ByteArray.mk acc.toArray).size = acc.length := by show acc.toArray.size = _; simp
          have hal := HAl.out ()
          clear hpe hM HHx HHe HX3 HO HO2 HTk
          by_cases h4 : 4096 < acc.length
          · have HE : Hid (hexT s p = .error 4) := HXe.out.trans (if_pos h4)
            have HTA : Hid (∀ W : World, _) := fun W => textAt_no (ByteArray.mk acc.toArray) p W (by omega) (by omega)
            clear hz hal h4
            generalize ByteArray.mk acc.toArray = V at *
            go_wp2_with fail
            refine (HTA.out _).mono ?_
            rintro e w6 ⟨rfl, hb6⟩
            have HT6 : Hid (TkS R s w w6 (p + 2 + M + 1)) := HT5.out.below hb6
            clear hb6 HTA
            unfold gaveUp
            go_wp2
            exact ⟨rfl, by unfold TokR; rw [HE.out]; rfl, HT6.out.fr⟩
          · have HE : Hid (hexT s p = .ok (⟨4, ⟨acc.toArray⟩, 0, p⟩, p + 2 + M + 1)) := HXe.out.trans (if_neg h4)
            have HTA : Hid (∀ W : World, _) := fun W => textAt_ok (ByteArray.mk acc.toArray) p W (by omega)
            clear hz hal h4 HXe
            generalize ByteArray.mk acc.toArray = V at *
            go_wp2_with fail
            refine (HTA.out _).mono ?_
            rintro e w6 ⟨rfl, hb6⟩
            have HT6 : Hid (TkS R s w w6 (p + 2 + M + 1)) := HT5.out.below hb6
            clear hb6 HTA HT5
            obtain ⟨d0, d1, d2, d3, f10, f11, f12, f13⟩ := zTk HT6.out.bx
            unfold tkC
            go_wp2
            refine bodyPost_ret (results_cell_row rfl _ _ w.heap.size _ _ (0, 0) _ (by rfl) (set4 HT6.out.bx) Tryz.underlying30 rfl infoTk) rfl ⟨?_, (HT6.out.done _ _ _ _).2⟩
            unfold TokR
            rw [HE.out]
            exact ⟨rfl, (HT6.out.done _ _ _ _).1⟩
    · have HE : Hid (hexT s p = .error 154) := HX2.out.trans (if_pos hodd)
      have hr : ((M : Int) % 2 != 0) = true := by simp; omega
      have hr2 : ¬ (M : Int) % 2 = 0 := by omega
      go_wp2
      exact ⟨rfl, by unfold TokR; rw [HE.out]; rfl, HT2.out.fr⟩
end Go.Proofs.YtlidkdnfibfnfaaGreatDoor
