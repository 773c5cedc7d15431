import Derived.Test.YteekompojgbkhaaGreatKBmI
namespace Go.Proofs.YteekompojgbkhaaGreat
set_option linter.unusedSimpArgs false
open Go.ChangeShapes Go.WideShapes Go.ChangeAt Go.RowKit Go.MuLone Go.RwLone
set_option linter.unusedVariables false
set_option maxRecDepth 100000
set_option maxHeartbeats 6400000
theorem infoOn : (Tryz.prog.info? 48).map (fun i => (i.zero, i.size, i.bytes)) = some (some (.agg #[.int .i64 0, .int .i64 0, .pointer none, .pointer none, .pointer none, .bool false, .bool false, .int .i64 0, .bool false, .int .i64 0, .slice none 0 0, .slice none 0 0]), 12, 120) := by kernel_rfl
abbrev mi0 : MI := ⟨0, 0, 0, 0, 0, 0⟩
abbrev mr0 : MR := ⟨0, 0, 0, 0, 0, 0, 0, 0, false, 0⟩
abbrev mw0 : MW := ⟨0, 0, 0, 0, 0, false, 0⟩
abbrev onI (sl bu : Int) : On := ⟨0, sl, ⟨0, 0, bu, sl, 0, 0⟩, mr0, mw0, false, false, false, ⟨0, 0, [], []⟩⟩
abbrev onR (sl bu : Int) : On := ⟨1, sl, mi0, ⟨0, 0, bu, sl, 0, 0, 0, 0, false, 0⟩, mw0, false, false, false, ⟨0, 0, [], []⟩⟩
abbrev onW (k : Int) : On := ⟨2, 0, mi0, mr0, ⟨0, k, 0, 0, 0, false, 0⟩, false, false, false, ⟨k, 0, [], []⟩⟩
theorem olC_one (q : OL) (h1 : q.dv = .slice none 0 0) (h2 : q.mv = .slice none 0 0) : ∀ u ∈ olC q, u.oneCell' = true := by
  intro u hu
  unfold olC at hu
  rw [h1, h2] at hu
  simp only [List.mem_cons, List.not_mem_nil, or_false] at hu
  rcases hu with rfl | rfl | rfl | rfl | rfl | rfl | rfl | rfl | rfl | rfl | rfl | rfl <;> first | rfl | (split <;> rfl)
theorem allocC {w : World} {o : Obj} {a : Addr} {v : Value} (h : w.cell? a = some v) : (w.alloc o).cell? a = w.cell? a := by
  have hl : a.block < w.heap.size := by
    unfold World.cell? at h
    cases e : w.heap[a.block]? with
    | none => rw [e] at h; cases h
    | some o => exact (Array.getElem?_eq_some_iff.1 e).1
  exact World.cell?_of_block (w := w) (Below.heap_alloc w o a.block hl)
/-- What is read when a machine begins. -/
structure RdS (W : World) (l : BkL) (bb N nb : Nat) (av : Value) : Prop where
  b1 : W.cell? ⟨bb, 1, none⟩ = some (.pointer (some ⟨l.X.x, 0, none⟩))
  b2 : W.cell? ⟨bb, 2, none⟩ = some (.int .i64 (N : Int))
  b3 : W.cell? ⟨bb, 3, none⟩ = some (.int .i64 (nb : Int))
  b4 : W.cell? ⟨bb, 4, none⟩ = some (.slice (some ⟨l.ib, 0, none⟩) (N + 1) l.ic)
  b5 : W.cell? ⟨bb, 5, none⟩ = some (.slice (some ⟨l.rb, 0, none⟩) (N + 1) l.rc)
  b9 : W.cell? ⟨bb, 9, none⟩ = some av
  fb : ∀ i, W.frozen? ⟨bb, i, none⟩ = false
theorem RdS.drew {W : World} {l : BkL} {bb N nb : Nat} {av : Value} (h : RdS W l bb N nb av) : RdS W.drew l bb N nb av := ⟨h.b1, h.b2, h.b3, h.b4, h.b5, h.b9, h.fb⟩
theorem BkM.rds {W : World} {B bb : Nat} {l : BkL} {s : BkS} (h : BkM W B bb l s) : RdS W l bb s.N s.nb s.av := ⟨(h.c 1).trans rfl, (h.c 2).trans rfl, (h.c 3).trans rfl, (h.c 4).trans rfl, (h.c 5).trans rfl, (h.c 9).trans rfl, h.fz⟩
/-- A machine of kind 0 begins. -/
theorem bk_start0 (w : World) (l : BkL) (bb N nb n cp k : Nat) (sn : Nat) (y z : Int) (a : Int) (sp : Option Addr) (all : List OL) (R1 R2 R : World → Prop) (a0 : -9223372036854775808 ≤ a) (a1 : a ≤ 9223372036854775807) (N0 : 1 ≤ N) (N1 : N ≤ 4096) (b0 : 1 ≤ nb) (b1 : nb ≤ 4096) (hn : all.length = n) (nl : n ≤ 1048575)
    (hs : 1 + a % (N : Int) = (sn : Int)) (hk : (sn : Int) % (nb : Int) = (k : Int))
    (F0 : R1 ((w.alloc (.cells #[.int .i64 0, .int .i64 a] 40)).drew))
    (F1 : ∀ W, R1 W → RdS W l bb N nb (.slice sp n cp) ∧ (W.cell? ⟨l.ib, sn, none⟩ = some (.int .i64 0) ∧ W.frozen? ⟨l.ib, sn, none⟩ = false) ∧ R2 (W.setCell ⟨l.ib, sn, none⟩ (.int .i64 1)))
    (F2 : ∀ W, R2 W → RdS W l bb N nb (.slice sp n cp) ∧ ∀ mb w3, W.heap.size = mb → InsH w3 mb l.X.x ⟨0, 0, (k : Int), (sn : Int), 0, 0⟩ → Keeps (fun _ => False) W.drew w3 → w3.heap.size = mb + 1 → RdS w3 l bb N nb (.slice sp n cp) ∧ OwG olC 48 12 w3 0 (.slice sp n cp) all ∧ ∀ b cap w7, OwG olC 48 12 w7 0 (.slice (some ⟨b, 0, none⟩) (n + 1) cap) (all ++ [⟨onI (sn : Int) (k : Int), mb, .slice none 0 0, .slice none 0 0⟩]) → Keeps (fun x => (Value.slice sp n cp).ownBlock = some x) w3 w7 → ((Value.slice sp n cp).ownBlock = some b ∨ w3.heap.size ≤ b) → RdS w7 l bb N nb (.slice sp n cp) ∧ RdS (w7.setCell ⟨bb, 9, none⟩ (.slice (some ⟨b, 0, none⟩) (n + 1) cap)) l bb N nb (.slice (some ⟨b, 0, none⟩) (n + 1) cap) ∧ R (w7.setCell ⟨bb, 9, none⟩ (.slice (some ⟨b, 0, none⟩) (n + 1) cap))) :
    Calls Tryz.prog 13 #[.pointer (some ⟨bb, 0, none⟩), .agg #[.int .i64 0, .int .i64 a]] w fun e w' => e = .returned (.tuple #[]) ∧ R w' := by
  have HF0 : Hid (∀ _ : Unit, _) := fun _ => F0
  have HF1 : Hid (∀ _ : Unit, _) := fun _ => F1
  have HF2 : Hid (∀ _ : Unit, _) := fun _ => F2
  have HS : Hid (∀ _ : Unit, _) := fun _ => hs
  have HK : Hid (∀ _ : Unit, _) := fun _ => hk
  have g1 := heap_alloc_new w (.cells #[.int .i64 0, .int .i64 a] 40)
  have m0 := Int.emod_nonneg a (show (nb : Int) ≠ 0 by omega)
  have m1 := Int.emod_lt_of_pos a (show (0 : Int) < (nb : Int) by omega)
  have n0 := Int.emod_nonneg a (show (N : Int) ≠ 0 by omega)
  have n1 := Int.emod_lt_of_pos a (show (0 : Int) < (N : Int) by omega)
  have s0 : 1 ≤ (sn : Int) ∧ (sn : Int) ≤ (N : Int) := by omega
  have k0 := Int.emod_nonneg (sn : Int) (show (nb : Int) ≠ 0 by omega)
  obtain ⟨r1, _⟩ := F1 _ F0
  have sx : (w.alloc (.cells #[.int .i64 0, .int .i64 a] 40)).drew.cell? ⟨w.heap.size, 1, none⟩ = some (.int .i64 a) ∧ (w.alloc (.cells #[.int .i64 0, .int .i64 a] 40)).drew.cell? ⟨bb, 2, none⟩ = some (.int .i64 (N : Int)) ∧ (w.alloc (.cells #[.int .i64 0, .int .i64 a] 40)).drew.cell? ⟨w.heap.size, 0, none⟩ = some (.int .i64 0) := ⟨(cell?_heap g1 1).trans rfl, r1.b2, (cell?_heap g1 0).trans rfl⟩
  obtain ⟨rr, hrr⟩ : ∃ x, a % (N : Int) = x := ⟨_, rfl⟩
  have HM : Hid (∀ W, Calls Tryz.prog 14 #[.int .i64 a, .int .i64 (N : Int)] W fun e w' => e = .returned (.int .i64 rr) ∧ w' = W) := fun W => by
    have := bk_mod a (N : Int) W a0 a1 (by omega) (by omega)
    rw [hrr] at this
    exact this
  rw [hrr] at hs n0 n1
  have hw : IntKind.i64.wrap (1 + rr) = (sn : Int) := by rw [IntKind.wrap_i64, hs]; omega
  have hsn0 : (0 : Int) ≤ (sn : Int) := by omega
  have hsn1 : (sn : Int) < ((N + 1 : Nat) : Int) := by omega
  clear F0 F1 F2 r1 g1 hk hrr m0 m1 hs
  go_enter Tryz.func13, Tryz.ntmps13
  go_wp2_with fail
  (refine wp_region_held_drew (S := (fun Z => Z.cell? ⟨w.heap.size, 1, none⟩ = some (.int .i64 a) ∧ Z.cell? ⟨bb, 2, none⟩ = some (.int .i64 (N : Int)) ∧ Z.cell? ⟨w.heap.size, 0, none⟩ = some (.int .i64 0))) (by kernel_rfl) sx (fun hHeld => ?_); simp only [List.size_toArray, List.length_cons, List.length_nil, Nat.reduceAdd, Array.replicate_succ, Array.replicate_zero, List.push_toArray, List.append_toArray, List.nil_append, List.cons_append])
  clear sx
  generalize (w.alloc (.cells #[.int .i64 0, .int .i64 a] 40)).drew = wd at *
  refine rgT 0 (h := ?_)
  refine rgT 1 (h := ?_)
  refine rgT 2 (h := ?_)
  refine rgT 3 (h := ?_)
  refine rgT 4 (h := ?_)
  refine rgT 5 (h := ?_)
  (refine rgS 6 (h := fun K hK => ?_); go_simp)
  refine (HM.out _).mono ?_
  rintro e w9 ⟨rfl, hw9⟩
  rw [hw9]
  clear hw9 w9
  (refine hK.out _ _ hHeld (fun hHeld => ?_); clear hK K; try simp only [Act.put, List.setIfInBounds_toArray, List.set_cons_zero, List.set_cons_succ])
  refine rgT 7 (h := ?_)
  refine rgT 8 (h := ?_)
  refine wpAnyH_done (by kernel_rfl) ?_ _
  have hk0 := hHeld.2.2
  have ha0 := hHeld.1
  clear hHeld
  obtain ⟨r1, ⟨ci, fi⟩, h2⟩ := HF1.out () wd (HF0.out ())
  have b4 := r1.b4
  have H2 : Hid (R2 (wd.setCell ⟨l.ib, sn, none⟩ (.int .i64 1))) := h2
  clear r1 h2
  go_wp2_with fail
  clear ci fi b4 hk0 ha0
  generalize wd.setCell ⟨l.ib, sn, none⟩ (.int .i64 1) = W at *
  obtain ⟨r2, F9⟩ := HF2.out () W H2.out
  obtain ⟨mb, hmb⟩ : ∃ x, W.heap.size = x := ⟨_, rfl⟩
  have H9 : Hid (∀ _ : Unit, _) := fun _ => F9 mb
  have sx : W.drew.cell? ⟨bb, 1, none⟩ = some (.pointer (some ⟨l.X.x, 0, none⟩)) ∧ W.drew.cell? ⟨bb, 3, none⟩ = some (.int .i64 (nb : Int)) := ⟨r2.b1, r2.b3⟩
  have d9 : W.drew.cell? ⟨bb, 9, none⟩ = some (.slice sp n cp) := r2.b9
  have hmd : W.drew.heap.size = mb := hmb
  clear r2 F9 HF0 HF1 HF2
  go_wp2_with fail
  (refine wp_region_held_drew (S := (fun Z => Z.cell? ⟨bb, 1, none⟩ = some (.pointer (some ⟨l.X.x, 0, none⟩)) ∧ Z.cell? ⟨bb, 3, none⟩ = some (.int .i64 (nb : Int)))) (by kernel_rfl) sx (fun hHeld => ?_); simp only [List.size_toArray, List.length_cons, List.length_nil, Nat.reduceAdd, Array.replicate_succ, Array.replicate_zero, List.push_toArray, List.append_toArray, List.nil_append, List.cons_append])
  clear sx
  generalize W.drew = wd at *
  have HB : Hid (∀ _ : Unit, _) := fun _ => bk_bucketOf wd bb nb (sn : Int) hHeld.2 hsn0 (by omega) (by omega) b1
  rw [HK.out ()] at HB
  have HN : Hid (∀ _ : Unit, _) := fun _ => ins_new wd l.X.x (k : Int) (sn : Int)
  rw [hmd] at HN
  clear hmd
  refine rgT 0 (h := ?_)
  refine rgT 1 (h := ?_)
  refine rgT 2 (h := ?_)
  refine rgT 3 (h := ?_)
  refine rgT 5 (h := ?_)
  refine rgT 6 (h := ?_)
  refine rgT 7 (h := ?_)
  refine rgT 8 (h := ?_)
  refine rgT 9 (h := ?_)
  refine rgT 10 (h := ?_)
  refine rgT 11 (h := ?_)
  refine rgT 13 (h := ?_)
  (refine wpAnyH_ready (rs := [4, 12]) (by kernel_rfl) (by simp) ?_; refine rgA 4 (by rfl) (fun K hK => ?_) (rgA 12 (by rfl) (fun K hK => ?_) AllReadyH.nil) <;> go_simp)
  · (refine hK.out _ _ hHeld (fun hHeld => ?_); clear hK K; try simp only [Act.put, List.setIfInBounds_toArray, List.set_cons_zero, List.set_cons_succ])
    (refine rgS 12 (h := fun K hK => ?_); go_simp)
    refine (HB.out ()).mono ?_
    rintro e w9 ⟨rfl, hw9⟩
    rw [hw9]
    clear hw9 w9 HB
    (refine hK.out _ _ hHeld (fun hHeld => ?_); clear hK K; try simp only [Act.put, List.setIfInBounds_toArray, List.set_cons_zero, List.set_cons_succ])
    (refine rgS 14 (h := fun K hK => ?_); go_simp)
    refine (HN.out ()).mono ?_
    rintro e w3 ⟨rfl, hm, km, hz⟩
    obtain ⟨r3, o3, F7⟩ := H9.out () w3 hmb hm km hz
    have H7 : Hid (∀ _ : Unit, _) := fun _ => F7
    have HO : Hid (OwG olC 48 12 w3 0 (.slice sp n cp) all) := o3
    have s3 : w3.cell? ⟨bb, 1, none⟩ = some (.pointer (some ⟨l.X.x, 0, none⟩)) ∧ w3.cell? ⟨bb, 3, none⟩ = some (.int .i64 (nb : Int)) := ⟨r3.b1, r3.b3⟩
    have e9 : w3.cell? ⟨bb, 9, none⟩ = some (.slice sp n cp) := r3.b9
    have e9a : (w3.alloc (.cells #[.int .i64 0, .int .i64 (sn : Int), .pointer (some ⟨mb, 0, none⟩), .pointer none, .pointer none, .bool false, .bool false, .int .i64 0, .bool false, .int .i64 0, .slice none 0 0, .slice none 0 0] 48)).cell? ⟨bb, 9, none⟩ = some (.slice sp n cp) := (allocC r3.b9).trans r3.b9
    have s3a : (w3.alloc (.cells #[.int .i64 0, .int .i64 (sn : Int), .pointer (some ⟨mb, 0, none⟩), .pointer none, .pointer none, .bool false, .bool false, .int .i64 0, .bool false, .int .i64 0, .slice none 0 0, .slice none 0 0] 48)).cell? ⟨bb, 1, none⟩ = some (.pointer (some ⟨l.X.x, 0, none⟩)) ∧ (w3.alloc (.cells #[.int .i64 0, .int .i64 (sn : Int), .pointer (some ⟨mb, 0, none⟩), .pointer none, .pointer none, .bool false, .bool false, .int .i64 0, .bool false, .int .i64 0, .slice none 0 0, .slice none 0 0] 48)).cell? ⟨bb, 3, none⟩ = some (.int .i64 (nb : Int)) := ⟨(allocC r3.b1).trans r3.b1, (allocC r3.b3).trans r3.b3⟩
    clear hm km hz r3 o3 F7 HN H9
    (refine hK.out _ _ s3 (fun hHeld => ?_); clear hK K; try simp only [Act.put, List.setIfInBounds_toArray, List.set_cons_zero, List.set_cons_succ])
    refine rgT 15 (h := ?_)
    (refine rgS 16 (h := fun K hK => ?_); go_simp)
    (refine hK.out _ _ s3a (fun hHeld => ?_); clear hK K; try simp only [Act.put, List.setIfInBounds_toArray, List.set_cons_zero, List.set_cons_succ])
    clear e9 e9a d9
    (refine rgS 17 (h := fun K hK => ?_); rw [if_pos (by rfl)])
    refine app_stay_wp (cs := olC) (wr := w3) _ _ 33 48 (by rfl) Tryz.underlying33 infoOn rfl (by decide) olC_len _ all ⟨onI (sn : Int) (k : Int), mb, .slice none 0 0, .slice none 0 0⟩ HO.out (by rfl) w3.heap.size rfl (by rfl) (olC_one _ rfl rfl) _ rfl (by unfold maxLen; omega) (by omega) ?_
    intro b cap w7 ho7 kk7 hb7
    rw [hn] at ho7 ⊢
    obtain ⟨r7, r8, h8⟩ := H7.out () b cap w7 ho7 (by
      rcases kk7 with ⟨_, k⟩ | ⟨_, k⟩
      · exact k
      · exact k.mono (fun _ e => e.elim)) (kk7.imp (fun c => c.1) (fun c => c.1))
    have H8 : Hid (R (w7.setCell ⟨bb, 9, none⟩ (.slice (some ⟨b, 0, none⟩) (n + 1) cap))) := h8
    have s7 : w7.cell? ⟨bb, 1, none⟩ = some (.pointer (some ⟨l.X.x, 0, none⟩)) ∧ w7.cell? ⟨bb, 3, none⟩ = some (.int .i64 (nb : Int)) := ⟨r7.b1, r7.b3⟩
    have s8 : (w7.setCell ⟨bb, 9, none⟩ (.slice (some ⟨b, 0, none⟩) (n + 1) cap)).cell? ⟨bb, 1, none⟩ = some (.pointer (some ⟨l.X.x, 0, none⟩)) ∧ (w7.setCell ⟨bb, 9, none⟩ (.slice (some ⟨b, 0, none⟩) (n + 1) cap)).cell? ⟨bb, 3, none⟩ = some (.int .i64 (nb : Int)) := ⟨r8.b1, r8.b3⟩
    have d7 := r7.b9
    have f7 := r7.fb 9
    clear r7 r8 h8 ho7 kk7 hb7 H7 HO
    (refine hK.out _ _ s7 (fun hHeld => ?_); clear hK K; try simp only [Act.put, List.setIfInBounds_toArray, List.set_cons_zero, List.set_cons_succ])
    refine rgT 18 (h := ?_)
    refine rgT 19 (h := ?_)
    (refine rgS 20 (h := fun K hK => ?_); go_simp)
    (refine hK.out _ _ s8 (fun hHeld => ?_); clear hK K; try simp only [Act.put, List.setIfInBounds_toArray, List.set_cons_zero, List.set_cons_succ])
    refine wpAnyH_done (by kernel_rfl) ?_ _
    clear hHeld s7 s8 d7 f7
    go_wp2
    exact ⟨rfl, .tuple #[], by simp [results, Tryz.results13], rfl, H8.out⟩
  · refine (HB.out ()).mono ?_
    rintro e w9 ⟨rfl, hw9⟩
    rw [hw9]
    clear hw9 w9 HB
    (refine hK.out _ _ hHeld (fun hHeld => ?_); clear hK K; try simp only [Act.put, List.setIfInBounds_toArray, List.set_cons_zero, List.set_cons_succ])
    (refine wpAnyH_ready (rs := [4, 14]) (by kernel_rfl) (by simp) ?_; refine rgA 4 (by rfl) (fun K hK => ?_) (rgA 14 (by rfl) (fun K hK => ?_) AllReadyH.nil) <;> go_simp)
    · (refine hK.out _ _ hHeld (fun hHeld => ?_); clear hK K; try simp only [Act.put, List.setIfInBounds_toArray, List.set_cons_zero, List.set_cons_succ])
      (refine rgS 14 (h := fun K hK => ?_); go_simp)
      refine (HN.out ()).mono ?_
      rintro e w3 ⟨rfl, hm, km, hz⟩
      obtain ⟨r3, o3, F7⟩ := H9.out () w3 hmb hm km hz
      have H7 : Hid (∀ _ : Unit, _) := fun _ => F7
      have HO : Hid (OwG olC 48 12 w3 0 (.slice sp n cp) all) := o3
      have s3 : w3.cell? ⟨bb, 1, none⟩ = some (.pointer (some ⟨l.X.x, 0, none⟩)) ∧ w3.cell? ⟨bb, 3, none⟩ = some (.int .i64 (nb : Int)) := ⟨r3.b1, r3.b3⟩
      have e9 : w3.cell? ⟨bb, 9, none⟩ = some (.slice sp n cp) := r3.b9
      have e9a : (w3.alloc (.cells #[.int .i64 0, .int .i64 (sn : Int), .pointer (some ⟨mb, 0, none⟩), .pointer none, .pointer none, .bool false, .bool false, .int .i64 0, .bool false, .int .i64 0, .slice none 0 0, .slice none 0 0] 48)).cell? ⟨bb, 9, none⟩ = some (.slice sp n cp) := (allocC r3.b9).trans r3.b9
      have s3a : (w3.alloc (.cells #[.int .i64 0, .int .i64 (sn : Int), .pointer (some ⟨mb, 0, none⟩), .pointer none, .pointer none, .bool false, .bool false, .int .i64 0, .bool false, .int .i64 0, .slice none 0 0, .slice none 0 0] 48)).cell? ⟨bb, 1, none⟩ = some (.pointer (some ⟨l.X.x, 0, none⟩)) ∧ (w3.alloc (.cells #[.int .i64 0, .int .i64 (sn : Int), .pointer (some ⟨mb, 0, none⟩), .pointer none, .pointer none, .bool false, .bool false, .int .i64 0, .bool false, .int .i64 0, .slice none 0 0, .slice none 0 0] 48)).cell? ⟨bb, 3, none⟩ = some (.int .i64 (nb : Int)) := ⟨(allocC r3.b1).trans r3.b1, (allocC r3.b3).trans r3.b3⟩
      clear hm km hz r3 o3 F7 HN H9
      (refine hK.out _ _ s3 (fun hHeld => ?_); clear hK K; try simp only [Act.put, List.setIfInBounds_toArray, List.set_cons_zero, List.set_cons_succ])
      refine rgT 15 (h := ?_)
      (refine rgS 16 (h := fun K hK => ?_); go_simp)
      (refine hK.out _ _ s3a (fun hHeld => ?_); clear hK K; try simp only [Act.put, List.setIfInBounds_toArray, List.set_cons_zero, List.set_cons_succ])
      clear e9 e9a d9
      (refine rgS 17 (h := fun K hK => ?_); rw [if_pos (by rfl)])
      refine app_stay_wp (cs := olC) (wr := w3) _ _ 33 48 (by rfl) Tryz.underlying33 infoOn rfl (by decide) olC_len _ all ⟨onI (sn : Int) (k : Int), mb, .slice none 0 0, .slice none 0 0⟩ HO.out (by rfl) w3.heap.size rfl (by rfl) (olC_one _ rfl rfl) _ rfl (by unfold maxLen; omega) (by omega) ?_
      intro b cap w7 ho7 kk7 hb7
      rw [hn] at ho7 ⊢
      obtain ⟨r7, r8, h8⟩ := H7.out () b cap w7 ho7 (by
        rcases kk7 with ⟨_, k⟩ | ⟨_, k⟩
        · exact k
        · exact k.mono (fun _ e => e.elim)) (kk7.imp (fun c => c.1) (fun c => c.1))
      have H8 : Hid (R (w7.setCell ⟨bb, 9, none⟩ (.slice (some ⟨b, 0, none⟩) (n + 1) cap))) := h8
      have s7 : w7.cell? ⟨bb, 1, none⟩ = some (.pointer (some ⟨l.X.x, 0, none⟩)) ∧ w7.cell? ⟨bb, 3, none⟩ = some (.int .i64 (nb : Int)) := ⟨r7.b1, r7.b3⟩
      have s8 : (w7.setCell ⟨bb, 9, none⟩ (.slice (some ⟨b, 0, none⟩) (n + 1) cap)).cell? ⟨bb, 1, none⟩ = some (.pointer (some ⟨l.X.x, 0, none⟩)) ∧ (w7.setCell ⟨bb, 9, none⟩ (.slice (some ⟨b, 0, none⟩) (n + 1) cap)).cell? ⟨bb, 3, none⟩ = some (.int .i64 (nb : Int)) := ⟨r8.b1, r8.b3⟩
      have d7 := r7.b9
      have f7 := r7.fb 9
      clear r7 r8 h8 ho7 kk7 hb7 H7 HO
      (refine hK.out _ _ s7 (fun hHeld => ?_); clear hK K; try simp only [Act.put, List.setIfInBounds_toArray, List.set_cons_zero, List.set_cons_succ])
      refine rgT 18 (h := ?_)
      refine rgT 19 (h := ?_)
      (refine rgS 20 (h := fun K hK => ?_); go_simp)
      (refine hK.out _ _ s8 (fun hHeld => ?_); clear hK K; try simp only [Act.put, List.setIfInBounds_toArray, List.set_cons_zero, List.set_cons_succ])
      refine wpAnyH_done (by kernel_rfl) ?_ _
      clear hHeld s7 s8 d7 f7
      go_wp2
      exact ⟨rfl, .tuple #[], by simp [results, Tryz.results13], rfl, H8.out⟩
    · refine (HN.out ()).mono ?_
      rintro e w3 ⟨rfl, hm, km, hz⟩
      obtain ⟨r3, o3, F7⟩ := H9.out () w3 hmb hm km hz
      have H7 : Hid (∀ _ : Unit, _) := fun _ => F7
      have HO : Hid (OwG olC 48 12 w3 0 (.slice sp n cp) all) := o3
      have s3 : w3.cell? ⟨bb, 1, none⟩ = some (.pointer (some ⟨l.X.x, 0, none⟩)) ∧ w3.cell? ⟨bb, 3, none⟩ = some (.int .i64 (nb : Int)) := ⟨r3.b1, r3.b3⟩
      have e9 : w3.cell? ⟨bb, 9, none⟩ = some (.slice sp n cp) := r3.b9
      have e9a : (w3.alloc (.cells #[.int .i64 0, .int .i64 (sn : Int), .pointer (some ⟨mb, 0, none⟩), .pointer none, .pointer none, .bool false, .bool false, .int .i64 0, .bool false, .int .i64 0, .slice none 0 0, .slice none 0 0] 48)).cell? ⟨bb, 9, none⟩ = some (.slice sp n cp) := (allocC r3.b9).trans r3.b9
      have s3a : (w3.alloc (.cells #[.int .i64 0, .int .i64 (sn : Int), .pointer (some ⟨mb, 0, none⟩), .pointer none, .pointer none, .bool false, .bool false, .int .i64 0, .bool false, .int .i64 0, .slice none 0 0, .slice none 0 0] 48)).cell? ⟨bb, 1, none⟩ = some (.pointer (some ⟨l.X.x, 0, none⟩)) ∧ (w3.alloc (.cells #[.int .i64 0, .int .i64 (sn : Int), .pointer (some ⟨mb, 0, none⟩), .pointer none, .pointer none, .bool false, .bool false, .int .i64 0, .bool false, .int .i64 0, .slice none 0 0, .slice none 0 0] 48)).cell? ⟨bb, 3, none⟩ = some (.int .i64 (nb : Int)) := ⟨(allocC r3.b1).trans r3.b1, (allocC r3.b3).trans r3.b3⟩
      clear hm km hz r3 o3 F7 HN H9
      (refine hK.out _ _ s3 (fun hHeld => ?_); clear hK K; try simp only [Act.put, List.setIfInBounds_toArray, List.set_cons_zero, List.set_cons_succ])
      refine rgT 15 (h := ?_)
      (refine wpAnyH_ready (rs := [4, 16]) (by kernel_rfl) (by simp) ?_; refine rgA 4 (by rfl) (fun K hK => ?_) (rgA 16 (by rfl) (fun K hK => ?_) AllReadyH.nil) <;> go_simp)
      · (refine hK.out _ _ s3 (fun hHeld => ?_); clear hK K; try simp only [Act.put, List.setIfInBounds_toArray, List.set_cons_zero, List.set_cons_succ])
        (refine rgS 16 (h := fun K hK => ?_); go_simp)
        (refine hK.out _ _ s3a (fun hHeld => ?_); clear hK K; try simp only [Act.put, List.setIfInBounds_toArray, List.set_cons_zero, List.set_cons_succ])
        clear e9 e9a d9
        (refine rgS 17 (h := fun K hK => ?_); rw [if_pos (by rfl)])
        refine app_stay_wp (cs := olC) (wr := w3) _ _ 33 48 (by rfl) Tryz.underlying33 infoOn rfl (by decide) olC_len _ all ⟨onI (sn : Int) (k : Int), mb, .slice none 0 0, .slice none 0 0⟩ HO.out (by rfl) w3.heap.size rfl (by rfl) (olC_one _ rfl rfl) _ rfl (by unfold maxLen; omega) (by omega) ?_
        intro b cap w7 ho7 kk7 hb7
        rw [hn] at ho7 ⊢
        obtain ⟨r7, r8, h8⟩ := H7.out () b cap w7 ho7 (by
          rcases kk7 with ⟨_, k⟩ | ⟨_, k⟩
          · exact k
          · exact k.mono (fun _ e => e.elim)) (kk7.imp (fun c => c.1) (fun c => c.1))
        have H8 : Hid (R (w7.setCell ⟨bb, 9, none⟩ (.slice (some ⟨b, 0, none⟩) (n + 1) cap))) := h8
        have s7 : w7.cell? ⟨bb, 1, none⟩ = some (.pointer (some ⟨l.X.x, 0, none⟩)) ∧ w7.cell? ⟨bb, 3, none⟩ = some (.int .i64 (nb : Int)) := ⟨r7.b1, r7.b3⟩
        have s8 : (w7.setCell ⟨bb, 9, none⟩ (.slice (some ⟨b, 0, none⟩) (n + 1) cap)).cell? ⟨bb, 1, none⟩ = some (.pointer (some ⟨l.X.x, 0, none⟩)) ∧ (w7.setCell ⟨bb, 9, none⟩ (.slice (some ⟨b, 0, none⟩) (n + 1) cap)).cell? ⟨bb, 3, none⟩ = some (.int .i64 (nb : Int)) := ⟨r8.b1, r8.b3⟩
        have d7 := r7.b9
        have f7 := r7.fb 9
        clear r7 r8 h8 ho7 kk7 hb7 H7 HO
        (refine hK.out _ _ s7 (fun hHeld => ?_); clear hK K; try simp only [Act.put, List.setIfInBounds_toArray, List.set_cons_zero, List.set_cons_succ])
        refine rgT 18 (h := ?_)
        refine rgT 19 (h := ?_)
        (refine rgS 20 (h := fun K hK => ?_); go_simp)
        (refine hK.out _ _ s8 (fun hHeld => ?_); clear hK K; try simp only [Act.put, List.setIfInBounds_toArray, List.set_cons_zero, List.set_cons_succ])
        refine wpAnyH_done (by kernel_rfl) ?_ _
        clear hHeld s7 s8 d7 f7
        go_wp2
        exact ⟨rfl, .tuple #[], by simp [results, Tryz.results13], rfl, H8.out⟩
      · (refine hK.out _ _ s3a (fun hHeld => ?_); clear hK K; try simp only [Act.put, List.setIfInBounds_toArray, List.set_cons_zero, List.set_cons_succ])
        (refine rgS 4 (h := fun K hK => ?_); go_simp)
        (refine hK.out _ _ s3a (fun hHeld => ?_); clear hK K; try simp only [Act.put, List.setIfInBounds_toArray, List.set_cons_zero, List.set_cons_succ])
        clear e9 e9a d9
        (refine rgS 17 (h := fun K hK => ?_); rw [if_pos (by rfl)])
        refine app_stay_wp (cs := olC) (wr := w3) _ _ 33 48 (by rfl) Tryz.underlying33 infoOn rfl (by decide) olC_len _ all ⟨onI (sn : Int) (k : Int), mb, .slice none 0 0, .slice none 0 0⟩ HO.out (by rfl) w3.heap.size rfl (by rfl) (olC_one _ rfl rfl) _ rfl (by unfold maxLen; omega) (by omega) ?_
        intro b cap w7 ho7 kk7 hb7
        rw [hn] at ho7 ⊢
        obtain ⟨r7, r8, h8⟩ := H7.out () b cap w7 ho7 (by
          rcases kk7 with ⟨_, k⟩ | ⟨_, k⟩
          · exact k
          · exact k.mono (fun _ e => e.elim)) (kk7.imp (fun c => c.1) (fun c => c.1))
        have H8 : Hid (R (w7.setCell ⟨bb, 9, none⟩ (.slice (some ⟨b, 0, none⟩) (n + 1) cap))) := h8
        have s7 : w7.cell? ⟨bb, 1, none⟩ = some (.pointer (some ⟨l.X.x, 0, none⟩)) ∧ w7.cell? ⟨bb, 3, none⟩ = some (.int .i64 (nb : Int)) := ⟨r7.b1, r7.b3⟩
        have s8 : (w7.setCell ⟨bb, 9, none⟩ (.slice (some ⟨b, 0, none⟩) (n + 1) cap)).cell? ⟨bb, 1, none⟩ = some (.pointer (some ⟨l.X.x, 0, none⟩)) ∧ (w7.setCell ⟨bb, 9, none⟩ (.slice (some ⟨b, 0, none⟩) (n + 1) cap)).cell? ⟨bb, 3, none⟩ = some (.int .i64 (nb : Int)) := ⟨r8.b1, r8.b3⟩
        have d7 := r7.b9
        have f7 := r7.fb 9
        clear r7 r8 h8 ho7 kk7 hb7 H7 HO
        (refine hK.out _ _ s7 (fun hHeld => ?_); clear hK K; try simp only [Act.put, List.setIfInBounds_toArray, List.set_cons_zero, List.set_cons_succ])
        refine rgT 18 (h := ?_)
        refine rgT 19 (h := ?_)
        (refine rgS 20 (h := fun K hK => ?_); go_simp)
        (refine hK.out _ _ s8 (fun hHeld => ?_); clear hK K; try simp only [Act.put, List.setIfInBounds_toArray, List.set_cons_zero, List.set_cons_succ])
        refine wpAnyH_done (by kernel_rfl) ?_ _
        clear hHeld s7 s8 d7 f7
        go_wp2
        exact ⟨rfl, .tuple #[], by simp [results, Tryz.results13], rfl, H8.out⟩
/-- A machine of kind 1 begins. -/
theorem bk_start1 (w : World) (l : BkL) (bb N nb n cp k : Nat) (sn : Nat) (y z : Int) (a : Int) (sp : Option Addr) (all : List OL) (R1 R2 R : World → Prop) (a0 : -9223372036854775808 ≤ a) (a1 : a ≤ 9223372036854775807) (N0 : 1 ≤ N) (N1 : N ≤ 4096) (b0 : 1 ≤ nb) (b1 : nb ≤ 4096) (hn : all.length = n) (nl : n ≤ 1048575)
    (hs : 1 + a % (N : Int) = (sn : Int)) (hk : (sn : Int) % (nb : Int) = (k : Int))
    (F0 : R1 ((w.alloc (.cells #[.int .i64 1, .int .i64 a] 40)).drew))
    (F1 : ∀ W, R1 W → RdS W l bb N nb (.slice sp n cp) ∧ W.cell? ⟨l.ib, sn, none⟩ = some (.int .i64 2) ∧ (W.cell? ⟨l.rb, sn, none⟩ = some (.int .i64 0) ∧ W.frozen? ⟨l.rb, sn, none⟩ = false) ∧ R2 (W.setCell ⟨l.rb, sn, none⟩ (.int .i64 1)))
    (F2 : ∀ W, R2 W → RdS W l bb N nb (.slice sp n cp) ∧ ∀ mb w3, W.heap.size = mb → RemH w3 mb l.X.x ⟨0, 0, (k : Int), (sn : Int), 0, 0, 0, 0, false, 0⟩ → Keeps (fun _ => False) W.drew w3 → w3.heap.size = mb + 1 → RdS w3 l bb N nb (.slice sp n cp) ∧ OwG olC 48 12 w3 0 (.slice sp n cp) all ∧ ∀ b cap w7, OwG olC 48 12 w7 0 (.slice (some ⟨b, 0, none⟩) (n + 1) cap) (all ++ [⟨onR (sn : Int) (k : Int), mb, .slice none 0 0, .slice none 0 0⟩]) → Keeps (fun x => (Value.slice sp n cp).ownBlock = some x) w3 w7 → ((Value.slice sp n cp).ownBlock = some b ∨ w3.heap.size ≤ b) → RdS w7 l bb N nb (.slice sp n cp) ∧ RdS (w7.setCell ⟨bb, 9, none⟩ (.slice (some ⟨b, 0, none⟩) (n + 1) cap)) l bb N nb (.slice (some ⟨b, 0, none⟩) (n + 1) cap) ∧ R (w7.setCell ⟨bb, 9, none⟩ (.slice (some ⟨b, 0, none⟩) (n + 1) cap))) :
    Calls Tryz.prog 13 #[.pointer (some ⟨bb, 0, none⟩), .agg #[.int .i64 1, .int .i64 a]] w fun e w' => e = .returned (.tuple #[]) ∧ R w' := by
  have HF0 : Hid (∀ _ : Unit, _) := fun _ => F0
  have HF1 : Hid (∀ _ : Unit, _) := fun _ => F1
  have HF2 : Hid (∀ _ : Unit, _) := fun _ => F2
  have HS : Hid (∀ _ : Unit, _) := fun _ => hs
  have HK : Hid (∀ _ : Unit, _) := fun _ => hk
  have g1 := heap_alloc_new w (.cells #[.int .i64 1, .int .i64 a] 40)
  have m0 := Int.emod_nonneg a (show (nb : Int) ≠ 0 by omega)
  have m1 := Int.emod_lt_of_pos a (show (0 : Int) < (nb : Int) by omega)
  have n0 := Int.emod_nonneg a (show (N : Int) ≠ 0 by omega)
  have n1 := Int.emod_lt_of_pos a (show (0 : Int) < (N : Int) by omega)
  have s0 : 1 ≤ (sn : Int) ∧ (sn : Int) ≤ (N : Int) := by omega
  have k0 := Int.emod_nonneg (sn : Int) (show (nb : Int) ≠ 0 by omega)
  obtain ⟨r1, _⟩ := F1 _ F0
  have sx : (w.alloc (.cells #[.int .i64 1, .int .i64 a] 40)).drew.cell? ⟨w.heap.size, 1, none⟩ = some (.int .i64 a) ∧ (w.alloc (.cells #[.int .i64 1, .int .i64 a] 40)).drew.cell? ⟨bb, 2, none⟩ = some (.int .i64 (N : Int)) ∧ (w.alloc (.cells #[.int .i64 1, .int .i64 a] 40)).drew.cell? ⟨w.heap.size, 0, none⟩ = some (.int .i64 1) := ⟨(cell?_heap g1 1).trans rfl, r1.b2, (cell?_heap g1 0).trans rfl⟩
  obtain ⟨rr, hrr⟩ : ∃ x, a % (N : Int) = x := ⟨_, rfl⟩
  have HM : Hid (∀ W, Calls Tryz.prog 14 #[.int .i64 a, .int .i64 (N : Int)] W fun e w' => e = .returned (.int .i64 rr) ∧ w' = W) := fun W => by
    have := bk_mod a (N : Int) W a0 a1 (by omega) (by omega)
    rw [hrr] at this
    exact this
  rw [hrr] at hs n0 n1
  have hw : IntKind.i64.wrap (1 + rr) = (sn : Int) := by rw [IntKind.wrap_i64, hs]; omega
  have hsn0 : (0 : Int) ≤ (sn : Int) := by omega
  have hsn1 : (sn : Int) < ((N + 1 : Nat) : Int) := by omega
  clear F0 F1 F2 r1 g1 hk hrr m0 m1 hs
  go_enter Tryz.func13, Tryz.ntmps13
  go_wp2_with fail
  (refine wp_region_held_drew (S := (fun Z => Z.cell? ⟨w.heap.size, 1, none⟩ = some (.int .i64 a) ∧ Z.cell? ⟨bb, 2, none⟩ = some (.int .i64 (N : Int)) ∧ Z.cell? ⟨w.heap.size, 0, none⟩ = some (.int .i64 1))) (by kernel_rfl) sx (fun hHeld => ?_); simp only [List.size_toArray, List.length_cons, List.length_nil, Nat.reduceAdd, Array.replicate_succ, Array.replicate_zero, List.push_toArray, List.append_toArray, List.nil_append, List.cons_append])
  clear sx
  generalize (w.alloc (.cells #[.int .i64 1, .int .i64 a] 40)).drew = wd at *
  refine rgT 0 (h := ?_)
  refine rgT 1 (h := ?_)
  refine rgT 2 (h := ?_)
  refine rgT 3 (h := ?_)
  refine rgT 4 (h := ?_)
  refine rgT 5 (h := ?_)
  (refine rgS 6 (h := fun K hK => ?_); go_simp)
  refine (HM.out _).mono ?_
  rintro e w9 ⟨rfl, hw9⟩
  rw [hw9]
  clear hw9 w9
  (refine hK.out _ _ hHeld (fun hHeld => ?_); clear hK K; try simp only [Act.put, List.setIfInBounds_toArray, List.set_cons_zero, List.set_cons_succ])
  refine rgT 7 (h := ?_)
  refine rgT 8 (h := ?_)
  refine wpAnyH_done (by kernel_rfl) ?_ _
  have hk0 := hHeld.2.2
  have ha0 := hHeld.1
  clear hHeld
  obtain ⟨r1, ci, ⟨cr, fr⟩, h2⟩ := HF1.out () wd (HF0.out ())
  have b4 := r1.b4
  have b5 := r1.b5
  have H2 : Hid (R2 (wd.setCell ⟨l.rb, sn, none⟩ (.int .i64 1))) := h2
  clear r1 h2
  go_wp2_with fail
  clear ci cr fr b4 b5 hk0 ha0
  generalize wd.setCell ⟨l.rb, sn, none⟩ (.int .i64 1) = W at *
  obtain ⟨r2, F9⟩ := HF2.out () W H2.out
  obtain ⟨mb, hmb⟩ : ∃ x, W.heap.size = x := ⟨_, rfl⟩
  have H9 : Hid (∀ _ : Unit, _) := fun _ => F9 mb
  have sx : W.drew.cell? ⟨bb, 1, none⟩ = some (.pointer (some ⟨l.X.x, 0, none⟩)) ∧ W.drew.cell? ⟨bb, 3, none⟩ = some (.int .i64 (nb : Int)) := ⟨r2.b1, r2.b3⟩
  have d9 : W.drew.cell? ⟨bb, 9, none⟩ = some (.slice sp n cp) := r2.b9
  have hmd : W.drew.heap.size = mb := hmb
  clear r2 F9 HF0 HF1 HF2
  go_wp2_with fail
  (refine wp_region_held_drew (S := (fun Z => Z.cell? ⟨bb, 1, none⟩ = some (.pointer (some ⟨l.X.x, 0, none⟩)) ∧ Z.cell? ⟨bb, 3, none⟩ = some (.int .i64 (nb : Int)))) (by kernel_rfl) sx (fun hHeld => ?_); simp only [List.size_toArray, List.length_cons, List.length_nil, Nat.reduceAdd, Array.replicate_succ, Array.replicate_zero, List.push_toArray, List.append_toArray, List.nil_append, List.cons_append])
  clear sx
  generalize W.drew = wd at *
  have HB : Hid (∀ _ : Unit, _) := fun _ => bk_bucketOf wd bb nb (sn : Int) hHeld.2 hsn0 (by omega) (by omega) b1
  rw [HK.out ()] at HB
  have HN : Hid (∀ _ : Unit, _) := fun _ => rem_new wd l.X.x (k : Int) (sn : Int)
  rw [hmd] at HN
  clear hmd
  refine rgT 0 (h := ?_)
  refine rgT 1 (h := ?_)
  refine rgT 2 (h := ?_)
  refine rgT 3 (h := ?_)
  refine rgT 5 (h := ?_)
  refine rgT 6 (h := ?_)
  refine rgT 7 (h := ?_)
  refine rgT 8 (h := ?_)
  refine rgT 9 (h := ?_)
  refine rgT 10 (h := ?_)
  refine rgT 11 (h := ?_)
  refine rgT 13 (h := ?_)
  (refine wpAnyH_ready (rs := [4, 12]) (by kernel_rfl) (by simp) ?_; refine rgA 4 (by rfl) (fun K hK => ?_) (rgA 12 (by rfl) (fun K hK => ?_) AllReadyH.nil) <;> go_simp)
  · (refine hK.out _ _ hHeld (fun hHeld => ?_); clear hK K; try simp only [Act.put, List.setIfInBounds_toArray, List.set_cons_zero, List.set_cons_succ])
    (refine rgS 12 (h := fun K hK => ?_); go_simp)
    refine (HB.out ()).mono ?_
    rintro e w9 ⟨rfl, hw9⟩
    rw [hw9]
    clear hw9 w9 HB
    (refine hK.out _ _ hHeld (fun hHeld => ?_); clear hK K; try simp only [Act.put, List.setIfInBounds_toArray, List.set_cons_zero, List.set_cons_succ])
    (refine rgS 14 (h := fun K hK => ?_); go_simp)
    refine (HN.out ()).mono ?_
    rintro e w3 ⟨rfl, hm, km, hz⟩
    obtain ⟨r3, o3, F7⟩ := H9.out () w3 hmb hm km hz
    have H7 : Hid (∀ _ : Unit, _) := fun _ => F7
    have HO : Hid (OwG olC 48 12 w3 0 (.slice sp n cp) all) := o3
    have s3 : w3.cell? ⟨bb, 1, none⟩ = some (.pointer (some ⟨l.X.x, 0, none⟩)) ∧ w3.cell? ⟨bb, 3, none⟩ = some (.int .i64 (nb : Int)) := ⟨r3.b1, r3.b3⟩
    have e9 : w3.cell? ⟨bb, 9, none⟩ = some (.slice sp n cp) := r3.b9
    have e9a : (w3.alloc (.cells #[.int .i64 1, .int .i64 (sn : Int), .pointer none, .pointer none, .pointer (some ⟨mb, 0, none⟩), .bool false, .bool false, .int .i64 0, .bool false, .int .i64 0, .slice none 0 0, .slice none 0 0] 48)).cell? ⟨bb, 9, none⟩ = some (.slice sp n cp) := (allocC r3.b9).trans r3.b9
    have s3a : (w3.alloc (.cells #[.int .i64 1, .int .i64 (sn : Int), .pointer none, .pointer none, .pointer (some ⟨mb, 0, none⟩), .bool false, .bool false, .int .i64 0, .bool false, .int .i64 0, .slice none 0 0, .slice none 0 0] 48)).cell? ⟨bb, 1, none⟩ = some (.pointer (some ⟨l.X.x, 0, none⟩)) ∧ (w3.alloc (.cells #[.int .i64 1, .int .i64 (sn : Int), .pointer none, .pointer none, .pointer (some ⟨mb, 0, none⟩), .bool false, .bool false, .int .i64 0, .bool false, .int .i64 0, .slice none 0 0, .slice none 0 0] 48)).cell? ⟨bb, 3, none⟩ = some (.int .i64 (nb : Int)) := ⟨(allocC r3.b1).trans r3.b1, (allocC r3.b3).trans r3.b3⟩
    clear hm km hz r3 o3 F7 HN H9
    (refine hK.out _ _ s3 (fun hHeld => ?_); clear hK K; try simp only [Act.put, List.setIfInBounds_toArray, List.set_cons_zero, List.set_cons_succ])
    refine rgT 15 (h := ?_)
    (refine rgS 16 (h := fun K hK => ?_); go_simp)
    (refine hK.out _ _ s3a (fun hHeld => ?_); clear hK K; try simp only [Act.put, List.setIfInBounds_toArray, List.set_cons_zero, List.set_cons_succ])
    clear e9 e9a d9
    (refine rgS 17 (h := fun K hK => ?_); rw [if_pos (by rfl)])
    refine app_stay_wp (cs := olC) (wr := w3) _ _ 33 48 (by rfl) Tryz.underlying33 infoOn rfl (by decide) olC_len _ all ⟨onR (sn : Int) (k : Int), mb, .slice none 0 0, .slice none 0 0⟩ HO.out (by rfl) w3.heap.size rfl (by rfl) (olC_one _ rfl rfl) _ rfl (by unfold maxLen; omega) (by omega) ?_
    intro b cap w7 ho7 kk7 hb7
    rw [hn] at ho7 ⊢
    obtain ⟨r7, r8, h8⟩ := H7.out () b cap w7 ho7 (by
      rcases kk7 with ⟨_, k⟩ | ⟨_, k⟩
      · exact k
      · exact k.mono (fun _ e => e.elim)) (kk7.imp (fun c => c.1) (fun c => c.1))
    have H8 : Hid (R (w7.setCell ⟨bb, 9, none⟩ (.slice (some ⟨b, 0, none⟩) (n + 1) cap))) := h8
    have s7 : w7.cell? ⟨bb, 1, none⟩ = some (.pointer (some ⟨l.X.x, 0, none⟩)) ∧ w7.cell? ⟨bb, 3, none⟩ = some (.int .i64 (nb : Int)) := ⟨r7.b1, r7.b3⟩
    have s8 : (w7.setCell ⟨bb, 9, none⟩ (.slice (some ⟨b, 0, none⟩) (n + 1) cap)).cell? ⟨bb, 1, none⟩ = some (.pointer (some ⟨l.X.x, 0, none⟩)) ∧ (w7.setCell ⟨bb, 9, none⟩ (.slice (some ⟨b, 0, none⟩) (n + 1) cap)).cell? ⟨bb, 3, none⟩ = some (.int .i64 (nb : Int)) := ⟨r8.b1, r8.b3⟩
    have d7 := r7.b9
    have f7 := r7.fb 9
    clear r7 r8 h8 ho7 kk7 hb7 H7 HO
    (refine hK.out _ _ s7 (fun hHeld => ?_); clear hK K; try simp only [Act.put, List.setIfInBounds_toArray, List.set_cons_zero, List.set_cons_succ])
    refine rgT 18 (h := ?_)
    refine rgT 19 (h := ?_)
    (refine rgS 20 (h := fun K hK => ?_); go_simp)
    (refine hK.out _ _ s8 (fun hHeld => ?_); clear hK K; try simp only [Act.put, List.setIfInBounds_toArray, List.set_cons_zero, List.set_cons_succ])
    refine wpAnyH_done (by kernel_rfl) ?_ _
    clear hHeld s7 s8 d7 f7
    go_wp2
    exact ⟨rfl, .tuple #[], by simp [results, Tryz.results13], rfl, H8.out⟩
  · refine (HB.out ()).mono ?_
    rintro e w9 ⟨rfl, hw9⟩
    rw [hw9]
    clear hw9 w9 HB
    (refine hK.out _ _ hHeld (fun hHeld => ?_); clear hK K; try simp only [Act.put, List.setIfInBounds_toArray, List.set_cons_zero, List.set_cons_succ])
    (refine wpAnyH_ready (rs := [4, 14]) (by kernel_rfl) (by simp) ?_; refine rgA 4 (by rfl) (fun K hK => ?_) (rgA 14 (by rfl) (fun K hK => ?_) AllReadyH.nil) <;> go_simp)
    · (refine hK.out _ _ hHeld (fun hHeld => ?_); clear hK K; try simp only [Act.put, List.setIfInBounds_toArray, List.set_cons_zero, List.set_cons_succ])
      (refine rgS 14 (h := fun K hK => ?_); go_simp)
      refine (HN.out ()).mono ?_
      rintro e w3 ⟨rfl, hm, km, hz⟩
      obtain ⟨r3, o3, F7⟩ := H9.out () w3 hmb hm km hz
      have H7 : Hid (∀ _ : Unit, _) := fun _ => F7
      have HO : Hid (OwG olC 48 12 w3 0 (.slice sp n cp) all) := o3
      have s3 : w3.cell? ⟨bb, 1, none⟩ = some (.pointer (some ⟨l.X.x, 0, none⟩)) ∧ w3.cell? ⟨bb, 3, none⟩ = some (.int .i64 (nb : Int)) := ⟨r3.b1, r3.b3⟩
      have e9 : w3.cell? ⟨bb, 9, none⟩ = some (.slice sp n cp) := r3.b9
      have e9a : (w3.alloc (.cells #[.int .i64 1, .int .i64 (sn : Int), .pointer none, .pointer none, .pointer (some ⟨mb, 0, none⟩), .bool false, .bool false, .int .i64 0, .bool false, .int .i64 0, .slice none 0 0, .slice none 0 0] 48)).cell? ⟨bb, 9, none⟩ = some (.slice sp n cp) := (allocC r3.b9).trans r3.b9
      have s3a : (w3.alloc (.cells #[.int .i64 1, .int .i64 (sn : Int), .pointer none, .pointer none, .pointer (some ⟨mb, 0, none⟩), .bool false, .bool false, .int .i64 0, .bool false, .int .i64 0, .slice none 0 0, .slice none 0 0] 48)).cell? ⟨bb, 1, none⟩ = some (.pointer (some ⟨l.X.x, 0, none⟩)) ∧ (w3.alloc (.cells #[.int .i64 1, .int .i64 (sn : Int), .pointer none, .pointer none, .pointer (some ⟨mb, 0, none⟩), .bool false, .bool false, .int .i64 0, .bool false, .int .i64 0, .slice none 0 0, .slice none 0 0] 48)).cell? ⟨bb, 3, none⟩ = some (.int .i64 (nb : Int)) := ⟨(allocC r3.b1).trans r3.b1, (allocC r3.b3).trans r3.b3⟩
      clear hm km hz r3 o3 F7 HN H9
      (refine hK.out _ _ s3 (fun hHeld => ?_); clear hK K; try simp only [Act.put, List.setIfInBounds_toArray, List.set_cons_zero, List.set_cons_succ])
      refine rgT 15 (h := ?_)
      (refine rgS 16 (h := fun K hK => ?_); go_simp)
      (refine hK.out _ _ s3a (fun hHeld => ?_); clear hK K; try simp only [Act.put, List.setIfInBounds_toArray, List.set_cons_zero, List.set_cons_succ])
      clear e9 e9a d9
      (refine rgS 17 (h := fun K hK => ?_); rw [if_pos (by rfl)])
      refine app_stay_wp (cs := olC) (wr := w3) _ _ 33 48 (by rfl) Tryz.underlying33 infoOn rfl (by decide) olC_len _ all ⟨onR (sn : Int) (k : Int), mb, .slice none 0 0, .slice none 0 0⟩ HO.out (by rfl) w3.heap.size rfl (by rfl) (olC_one _ rfl rfl) _ rfl (by unfold maxLen; omega) (by omega) ?_
      intro b cap w7 ho7 kk7 hb7
      rw [hn] at ho7 ⊢
      obtain ⟨r7, r8, h8⟩ := H7.out () b cap w7 ho7 (by
        rcases kk7 with ⟨_, k⟩ | ⟨_, k⟩
        · exact k
        · exact k.mono (fun _ e => e.elim)) (kk7.imp (fun c => c.1) (fun c => c.1))
      have H8 : Hid (R (w7.setCell ⟨bb, 9, none⟩ (.slice (some ⟨b, 0, none⟩) (n + 1) cap))) := h8
      have s7 : w7.cell? ⟨bb, 1, none⟩ = some (.pointer (some ⟨l.X.x, 0, none⟩)) ∧ w7.cell? ⟨bb, 3, none⟩ = some (.int .i64 (nb : Int)) := ⟨r7.b1, r7.b3⟩
      have s8 : (w7.setCell ⟨bb, 9, none⟩ (.slice (some ⟨b, 0, none⟩) (n + 1) cap)).cell? ⟨bb, 1, none⟩ = some (.pointer (some ⟨l.X.x, 0, none⟩)) ∧ (w7.setCell ⟨bb, 9, none⟩ (.slice (some ⟨b, 0, none⟩) (n + 1) cap)).cell? ⟨bb, 3, none⟩ = some (.int .i64 (nb : Int)) := ⟨r8.b1, r8.b3⟩
      have d7 := r7.b9
      have f7 := r7.fb 9
      clear r7 r8 h8 ho7 kk7 hb7 H7 HO
      (refine hK.out _ _ s7 (fun hHeld => ?_); clear hK K; try simp only [Act.put, List.setIfInBounds_toArray, List.set_cons_zero, List.set_cons_succ])
      refine rgT 18 (h := ?_)
      refine rgT 19 (h := ?_)
      (refine rgS 20 (h := fun K hK => ?_); go_simp)
      (refine hK.out _ _ s8 (fun hHeld => ?_); clear hK K; try simp only [Act.put, List.setIfInBounds_toArray, List.set_cons_zero, List.set_cons_succ])
      refine wpAnyH_done (by kernel_rfl) ?_ _
      clear hHeld s7 s8 d7 f7
      go_wp2
      exact ⟨rfl, .tuple #[], by simp [results, Tryz.results13], rfl, H8.out⟩
    · refine (HN.out ()).mono ?_
      rintro e w3 ⟨rfl, hm, km, hz⟩
      obtain ⟨r3, o3, F7⟩ := H9.out () w3 hmb hm km hz
      have H7 : Hid (∀ _ : Unit, _) := fun _ => F7
      have HO : Hid (OwG olC 48 12 w3 0 (.slice sp n cp) all) := o3
      have s3 : w3.cell? ⟨bb, 1, none⟩ = some (.pointer (some ⟨l.X.x, 0, none⟩)) ∧ w3.cell? ⟨bb, 3, none⟩ = some (.int .i64 (nb : Int)) := ⟨r3.b1, r3.b3⟩
      have e9 : w3.cell? ⟨bb, 9, none⟩ = some (.slice sp n cp) := r3.b9
      have e9a : (w3.alloc (.cells #[.int .i64 1, .int .i64 (sn : Int), .pointer none, .pointer none, .pointer (some ⟨mb, 0, none⟩), .bool false, .bool false, .int .i64 0, .bool false, .int .i64 0, .slice none 0 0, .slice none 0 0] 48)).cell? ⟨bb, 9, none⟩ = some (.slice sp n cp) := (allocC r3.b9).trans r3.b9
      have s3a : (w3.alloc (.cells #[.int .i64 1, .int .i64 (sn : Int), .pointer none, .pointer none, .pointer (some ⟨mb, 0, none⟩), .bool false, .bool false, .int .i64 0, .bool false, .int .i64 0, .slice none 0 0, .slice none 0 0] 48)).cell? ⟨bb, 1, none⟩ = some (.pointer (some ⟨l.X.x, 0, none⟩)) ∧ (w3.alloc (.cells #[.int .i64 1, .int .i64 (sn : Int), .pointer none, .pointer none, .pointer (some ⟨mb, 0, none⟩), .bool false, .bool false, .int .i64 0, .bool false, .int .i64 0, .slice none 0 0, .slice none 0 0] 48)).cell? ⟨bb, 3, none⟩ = some (.int .i64 (nb : Int)) := ⟨(allocC r3.b1).trans r3.b1, (allocC r3.b3).trans r3.b3⟩
      clear hm km hz r3 o3 F7 HN H9
      (refine hK.out _ _ s3 (fun hHeld => ?_); clear hK K; try simp only [Act.put, List.setIfInBounds_toArray, List.set_cons_zero, List.set_cons_succ])
      refine rgT 15 (h := ?_)
      (refine wpAnyH_ready (rs := [4, 16]) (by kernel_rfl) (by simp) ?_; refine rgA 4 (by rfl) (fun K hK => ?_) (rgA 16 (by rfl) (fun K hK => ?_) AllReadyH.nil) <;> go_simp)
      · (refine hK.out _ _ s3 (fun hHeld => ?_); clear hK K; try simp only [Act.put, List.setIfInBounds_toArray, List.set_cons_zero, List.set_cons_succ])
        (refine rgS 16 (h := fun K hK => ?_); go_simp)
        (refine hK.out _ _ s3a (fun hHeld => ?_); clear hK K; try simp only [Act.put, List.setIfInBounds_toArray, List.set_cons_zero, List.set_cons_succ])
        clear e9 e9a d9
        (refine rgS 17 (h := fun K hK => ?_); rw [if_pos (by rfl)])
        refine app_stay_wp (cs := olC) (wr := w3) _ _ 33 48 (by rfl) Tryz.underlying33 infoOn rfl (by decide) olC_len _ all ⟨onR (sn : Int) (k : Int), mb, .slice none 0 0, .slice none 0 0⟩ HO.out (by rfl) w3.heap.size rfl (by rfl) (olC_one _ rfl rfl) _ rfl (by unfold maxLen; omega) (by omega) ?_
        intro b cap w7 ho7 kk7 hb7
        rw [hn] at ho7 ⊢
        obtain ⟨r7, r8, h8⟩ := H7.out () b cap w7 ho7 (by
          rcases kk7 with ⟨_, k⟩ | ⟨_, k⟩
          · exact k
          · exact k.mono (fun _ e => e.elim)) (kk7.imp (fun c => c.1) (fun c => c.1))
        have H8 : Hid (R (w7.setCell ⟨bb, 9, none⟩ (.slice (some ⟨b, 0, none⟩) (n + 1) cap))) := h8
        have s7 : w7.cell? ⟨bb, 1, none⟩ = some (.pointer (some ⟨l.X.x, 0, none⟩)) ∧ w7.cell? ⟨bb, 3, none⟩ = some (.int .i64 (nb : Int)) := ⟨r7.b1, r7.b3⟩
        have s8 : (w7.setCell ⟨bb, 9, none⟩ (.slice (some ⟨b, 0, none⟩) (n + 1) cap)).cell? ⟨bb, 1, none⟩ = some (.pointer (some ⟨l.X.x, 0, none⟩)) ∧ (w7.setCell ⟨bb, 9, none⟩ (.slice (some ⟨b, 0, none⟩) (n + 1) cap)).cell? ⟨bb, 3, none⟩ = some (.int .i64 (nb : Int)) := ⟨r8.b1, r8.b3⟩
        have d7 := r7.b9
        have f7 := r7.fb 9
        clear r7 r8 h8 ho7 kk7 hb7 H7 HO
        (refine hK.out _ _ s7 (fun hHeld => ?_); clear hK K; try simp only [Act.put, List.setIfInBounds_toArray, List.set_cons_zero, List.set_cons_succ])
        refine rgT 18 (h := ?_)
        refine rgT 19 (h := ?_)
        (refine rgS 20 (h := fun K hK => ?_); go_simp)
        (refine hK.out _ _ s8 (fun hHeld => ?_); clear hK K; try simp only [Act.put, List.setIfInBounds_toArray, List.set_cons_zero, List.set_cons_succ])
        refine wpAnyH_done (by kernel_rfl) ?_ _
        clear hHeld s7 s8 d7 f7
        go_wp2
        exact ⟨rfl, .tuple #[], by simp [results, Tryz.results13], rfl, H8.out⟩
      · (refine hK.out _ _ s3a (fun hHeld => ?_); clear hK K; try simp only [Act.put, List.setIfInBounds_toArray, List.set_cons_zero, List.set_cons_succ])
        (refine rgS 4 (h := fun K hK => ?_); go_simp)
        (refine hK.out _ _ s3a (fun hHeld => ?_); clear hK K; try simp only [Act.put, List.setIfInBounds_toArray, List.set_cons_zero, List.set_cons_succ])
        clear e9 e9a d9
        (refine rgS 17 (h := fun K hK => ?_); rw [if_pos (by rfl)])
        refine app_stay_wp (cs := olC) (wr := w3) _ _ 33 48 (by rfl) Tryz.underlying33 infoOn rfl (by decide) olC_len _ all ⟨onR (sn : Int) (k : Int), mb, .slice none 0 0, .slice none 0 0⟩ HO.out (by rfl) w3.heap.size rfl (by rfl) (olC_one _ rfl rfl) _ rfl (by unfold maxLen; omega) (by omega) ?_
        intro b cap w7 ho7 kk7 hb7
        rw [hn] at ho7 ⊢
        obtain ⟨r7, r8, h8⟩ := H7.out () b cap w7 ho7 (by
          rcases kk7 with ⟨_, k⟩ | ⟨_, k⟩
          · exact k
          · exact k.mono (fun _ e => e.elim)) (kk7.imp (fun c => c.1) (fun c => c.1))
        have H8 : Hid (R (w7.setCell ⟨bb, 9, none⟩ (.slice (some ⟨b, 0, none⟩) (n + 1) cap))) := h8
        have s7 : w7.cell? ⟨bb, 1, none⟩ = some (.pointer (some ⟨l.X.x, 0, none⟩)) ∧ w7.cell? ⟨bb, 3, none⟩ = some (.int .i64 (nb : Int)) := ⟨r7.b1, r7.b3⟩
        have s8 : (w7.setCell ⟨bb, 9, none⟩ (.slice (some ⟨b, 0, none⟩) (n + 1) cap)).cell? ⟨bb, 1, none⟩ = some (.pointer (some ⟨l.X.x, 0, none⟩)) ∧ (w7.setCell ⟨bb, 9, none⟩ (.slice (some ⟨b, 0, none⟩) (n + 1) cap)).cell? ⟨bb, 3, none⟩ = some (.int .i64 (nb : Int)) := ⟨r8.b1, r8.b3⟩
        have d7 := r7.b9
        have f7 := r7.fb 9
        clear r7 r8 h8 ho7 kk7 hb7 H7 HO
        (refine hK.out _ _ s7 (fun hHeld => ?_); clear hK K; try simp only [Act.put, List.setIfInBounds_toArray, List.set_cons_zero, List.set_cons_succ])
        refine rgT 18 (h := ?_)
        refine rgT 19 (h := ?_)
        (refine rgS 20 (h := fun K hK => ?_); go_simp)
        (refine hK.out _ _ s8 (fun hHeld => ?_); clear hK K; try simp only [Act.put, List.setIfInBounds_toArray, List.set_cons_zero, List.set_cons_succ])
        refine wpAnyH_done (by kernel_rfl) ?_ _
        clear hHeld s7 s8 d7 f7
        go_wp2
        exact ⟨rfl, .tuple #[], by simp [results, Tryz.results13], rfl, H8.out⟩
/-- A machine of kind 2 begins. -/
theorem bk_start2 (w : World) (l : BkL) (bb N nb n cp k : Nat) (a : Int) (sp : Option Addr) (all : List OL) (R1 R2 R : World → Prop) (a0 : -9223372036854775808 ≤ a) (a1 : a ≤ 9223372036854775807) (N0 : 1 ≤ N) (N1 : N ≤ 4096) (b0 : 1 ≤ nb) (b1 : nb ≤ 4096) (hn : all.length = n) (nl : n ≤ 1048575)
    (hk : a % (nb : Int) = (k : Int))
    (F0 : R1 ((w.alloc (.cells #[.int .i64 2, .int .i64 a] 40)).drew))
    (F1 : ∀ W, R1 W → RdS W l bb N nb (.slice sp n cp) ∧ R1 W.drew ∧ R2 W)
    (F2 : ∀ W, R2 W → RdS W l bb N nb (.slice sp n cp) ∧ ∀ mb w3, W.heap.size = mb → WlkH w3 mb l.X.x ⟨0, (k : Int), 0, 0, 0, false, 0⟩ → Keeps (fun _ => False) W.drew w3 → w3.heap.size = mb + 1 → RdS w3 l bb N nb (.slice sp n cp) ∧ OwG olC 48 12 w3 0 (.slice sp n cp) all ∧ ∀ b cap w7, OwG olC 48 12 w7 0 (.slice (some ⟨b, 0, none⟩) (n + 1) cap) (all ++ [⟨onW (k : Int), mb, .slice none 0 0, .slice none 0 0⟩]) → Keeps (fun x => (Value.slice sp n cp).ownBlock = some x) w3 w7 → ((Value.slice sp n cp).ownBlock = some b ∨ w3.heap.size ≤ b) → RdS w7 l bb N nb (.slice sp n cp) ∧ RdS (w7.setCell ⟨bb, 9, none⟩ (.slice (some ⟨b, 0, none⟩) (n + 1) cap)) l bb N nb (.slice (some ⟨b, 0, none⟩) (n + 1) cap) ∧ R (w7.setCell ⟨bb, 9, none⟩ (.slice (some ⟨b, 0, none⟩) (n + 1) cap))) :
    Calls Tryz.prog 13 #[.pointer (some ⟨bb, 0, none⟩), .agg #[.int .i64 2, .int .i64 a]] w fun e w' => e = .returned (.tuple #[]) ∧ R w' := by
  have HF0 : Hid (∀ _ : Unit, _) := fun _ => F0
  have HF1 : Hid (∀ _ : Unit, _) := fun _ => F1
  have HF2 : Hid (∀ _ : Unit, _) := fun _ => F2
  have HK : Hid (∀ _ : Unit, _) := fun _ => hk
  have g1 := heap_alloc_new w (.cells #[.int .i64 2, .int .i64 a] 40)
  have m0 := Int.emod_nonneg a (show (nb : Int) ≠ 0 by omega)
  have m1 := Int.emod_lt_of_pos a (show (0 : Int) < (nb : Int) by omega)
  have n0 := Int.emod_nonneg a (show (N : Int) ≠ 0 by omega)
  have n1 := Int.emod_lt_of_pos a (show (0 : Int) < (N : Int) by omega)
  obtain ⟨r1, _⟩ := F1 _ F0
  have sx : (w.alloc (.cells #[.int .i64 2, .int .i64 a] 40)).drew.cell? ⟨w.heap.size, 1, none⟩ = some (.int .i64 a) ∧ (w.alloc (.cells #[.int .i64 2, .int .i64 a] 40)).drew.cell? ⟨bb, 2, none⟩ = some (.int .i64 (N : Int)) ∧ (w.alloc (.cells #[.int .i64 2, .int .i64 a] 40)).drew.cell? ⟨w.heap.size, 0, none⟩ = some (.int .i64 2) := ⟨(cell?_heap g1 1).trans rfl, r1.b2, (cell?_heap g1 0).trans rfl⟩
  obtain ⟨rr, hrr⟩ : ∃ x, a % (N : Int) = x := ⟨_, rfl⟩
  have HM : Hid (∀ W, Calls Tryz.prog 14 #[.int .i64 a, .int .i64 (N : Int)] W fun e w' => e = .returned (.int .i64 rr) ∧ w' = W) := fun W => by
    have := bk_mod a (N : Int) W a0 a1 (by omega) (by omega)
    rw [hrr] at this
    exact this
  rw [hrr] at n0 n1
  clear F0 F1 F2 r1 g1 hk hrr m0 m1
  go_enter Tryz.func13, Tryz.ntmps13
  go_wp2_with fail
  (refine wp_region_held_drew (S := (fun Z => Z.cell? ⟨w.heap.size, 1, none⟩ = some (.int .i64 a) ∧ Z.cell? ⟨bb, 2, none⟩ = some (.int .i64 (N : Int)) ∧ Z.cell? ⟨w.heap.size, 0, none⟩ = some (.int .i64 2))) (by kernel_rfl) sx (fun hHeld => ?_); simp only [List.size_toArray, List.length_cons, List.length_nil, Nat.reduceAdd, Array.replicate_succ, Array.replicate_zero, List.push_toArray, List.append_toArray, List.nil_append, List.cons_append])
  clear sx
  generalize (w.alloc (.cells #[.int .i64 2, .int .i64 a] 40)).drew = wd at *
  refine rgT 0 (h := ?_)
  refine rgT 1 (h := ?_)
  refine rgT 2 (h := ?_)
  refine rgT 3 (h := ?_)
  refine rgT 4 (h := ?_)
  refine rgT 5 (h := ?_)
  (refine rgS 6 (h := fun K hK => ?_); go_simp)
  refine (HM.out _).mono ?_
  rintro e w9 ⟨rfl, hw9⟩
  rw [hw9]
  clear hw9 w9
  (refine hK.out _ _ hHeld (fun hHeld => ?_); clear hK K; try simp only [Act.put, List.setIfInBounds_toArray, List.set_cons_zero, List.set_cons_succ])
  refine rgT 7 (h := ?_)
  refine rgT 8 (h := ?_)
  refine wpAnyH_done (by kernel_rfl) ?_ _
  have hk0 := hHeld.2.2
  have ha0 := hHeld.1
  clear hHeld
  obtain ⟨r1, h1d, _⟩ := HF1.out () wd (HF0.out ())
  obtain ⟨r1d, _, h2⟩ := HF1.out () wd.drew h1d
  have HM2 : Hid (∀ W, Calls Tryz.prog 14 #[.int .i64 a, .int .i64 (nb : Int)] W fun e w' => e = .returned (.int .i64 (k : Int)) ∧ w' = W) := fun W => by
    have := bk_mod a (nb : Int) W a0 a1 (by omega) (by omega)
    rw [HK.out ()] at this
    exact this
  have sx : wd.drew.cell? ⟨w.heap.size, 1, none⟩ = some (.int .i64 a) ∧ wd.drew.cell? ⟨bb, 3, none⟩ = some (.int .i64 (nb : Int)) := ⟨ha0, r1.b3⟩
  have H2 : Hid (R2 wd.drew) := h2
  clear r1 h1d r1d h2
  go_wp2_with fail
  (refine wp_region_held_drew (S := (fun Z => Z.cell? ⟨w.heap.size, 1, none⟩ = some (.int .i64 a) ∧ Z.cell? ⟨bb, 3, none⟩ = some (.int .i64 (nb : Int)))) (by kernel_rfl) sx (fun hHeld => ?_); simp only [List.size_toArray, List.length_cons, List.length_nil, Nat.reduceAdd, Array.replicate_succ, Array.replicate_zero, List.push_toArray, List.append_toArray, List.nil_append, List.cons_append])
  clear sx
  clear hk0 ha0
  generalize wd.drew = W at *
  refine rgT 0 (h := ?_)
  refine rgT 1 (h := ?_)
  refine rgT 2 (h := ?_)
  refine rgT 3 (h := ?_)
  refine rgT 4 (h := ?_)
  refine rgT 5 (h := ?_)
  (refine rgS 6 (h := fun K hK => ?_); go_simp)
  refine (HM2.out _).mono ?_
  rintro e w9 ⟨rfl, hw9⟩
  rw [hw9]
  clear hw9 w9 HM2
  (refine hK.out _ _ hHeld (fun hHeld => ?_); clear hK K; try simp only [Act.put, List.setIfInBounds_toArray, List.set_cons_zero, List.set_cons_succ])
  refine rgT 7 (h := ?_)
  refine wpAnyH_done (by kernel_rfl) ?_ _
  clear hHeld
  obtain ⟨r2, F9⟩ := HF2.out () W H2.out
  obtain ⟨mb, hmb⟩ : ∃ x, W.heap.size = x := ⟨_, rfl⟩
  have H9 : Hid (∀ _ : Unit, _) := fun _ => F9 mb
  have sx : W.drew.cell? ⟨bb, 1, none⟩ = some (.pointer (some ⟨l.X.x, 0, none⟩)) ∧ W.drew.cell? ⟨bb, 3, none⟩ = some (.int .i64 (nb : Int)) := ⟨r2.b1, r2.b3⟩
  have d9 : W.drew.cell? ⟨bb, 9, none⟩ = some (.slice sp n cp) := r2.b9
  have hmd : W.drew.heap.size = mb := hmb
  clear r2 F9 HF0 HF1 HF2
  go_wp2_with fail
  (refine wp_region_held_drew (S := (fun Z => Z.cell? ⟨bb, 1, none⟩ = some (.pointer (some ⟨l.X.x, 0, none⟩)) ∧ Z.cell? ⟨bb, 3, none⟩ = some (.int .i64 (nb : Int)))) (by kernel_rfl) sx (fun hHeld => ?_); simp only [List.size_toArray, List.length_cons, List.length_nil, Nat.reduceAdd, Array.replicate_succ, Array.replicate_zero, List.push_toArray, List.append_toArray, List.nil_append, List.cons_append])
  clear sx
  generalize W.drew = wd at *
  have HN : Hid (∀ _ : Unit, _) := fun _ => wlk_newWalk wd l.X.x (k : Int)
  rw [hmd] at HN
  clear hmd
  refine rgT 0 (h := ?_)
  refine rgT 1 (h := ?_)
  refine rgT 2 (h := ?_)
  refine rgT 3 (h := ?_)
  refine rgT 5 (h := ?_)
  refine rgT 6 (h := ?_)
  refine rgT 7 (h := ?_)
  refine rgT 8 (h := ?_)
  refine rgT 9 (h := ?_)
  refine rgT 11 (h := ?_)
  refine rgT 12 (h := ?_)
  (refine wpAnyH_ready (rs := [4, 10]) (by kernel_rfl) (by simp) ?_; refine rgA 4 (by rfl) (fun K hK => ?_) (rgA 10 (by rfl) (fun K hK => ?_) AllReadyH.nil) <;> go_simp)
  · (refine hK.out _ _ hHeld (fun hHeld => ?_); clear hK K; try simp only [Act.put, List.setIfInBounds_toArray, List.set_cons_zero, List.set_cons_succ])
    (refine rgS 10 (h := fun K hK => ?_); go_simp)
    refine (HN.out ()).mono ?_
    rintro e w3 ⟨rfl, hm, km, hz⟩
    obtain ⟨r3, o3, F7⟩ := H9.out () w3 hmb hm km hz
    have H7 : Hid (∀ _ : Unit, _) := fun _ => F7
    have HO : Hid (OwG olC 48 12 w3 0 (.slice sp n cp) all) := o3
    have s3 : w3.cell? ⟨bb, 1, none⟩ = some (.pointer (some ⟨l.X.x, 0, none⟩)) ∧ w3.cell? ⟨bb, 3, none⟩ = some (.int .i64 (nb : Int)) := ⟨r3.b1, r3.b3⟩
    have e9 : w3.cell? ⟨bb, 9, none⟩ = some (.slice sp n cp) := r3.b9
    have e9a : (w3.alloc (.cells #[.int .i64 2, .int .i64 0, .pointer none, .pointer (some ⟨mb, 0, none⟩), .pointer none, .bool false, .bool false, .int .i64 (k : Int), .bool false, .int .i64 0, .slice none 0 0, .slice none 0 0] 48)).cell? ⟨bb, 9, none⟩ = some (.slice sp n cp) := (allocC r3.b9).trans r3.b9
    have s3a : (w3.alloc (.cells #[.int .i64 2, .int .i64 0, .pointer none, .pointer (some ⟨mb, 0, none⟩), .pointer none, .bool false, .bool false, .int .i64 (k : Int), .bool false, .int .i64 0, .slice none 0 0, .slice none 0 0] 48)).cell? ⟨bb, 1, none⟩ = some (.pointer (some ⟨l.X.x, 0, none⟩)) ∧ (w3.alloc (.cells #[.int .i64 2, .int .i64 0, .pointer none, .pointer (some ⟨mb, 0, none⟩), .pointer none, .bool false, .bool false, .int .i64 (k : Int), .bool false, .int .i64 0, .slice none 0 0, .slice none 0 0] 48)).cell? ⟨bb, 3, none⟩ = some (.int .i64 (nb : Int)) := ⟨(allocC r3.b1).trans r3.b1, (allocC r3.b3).trans r3.b3⟩
    clear hm km hz r3 o3 F7 HN H9
    (refine hK.out _ _ s3 (fun hHeld => ?_); clear hK K; try simp only [Act.put, List.setIfInBounds_toArray, List.set_cons_zero, List.set_cons_succ])
    refine rgT 13 (h := ?_)
    (refine rgS 14 (h := fun K hK => ?_); go_simp)
    (refine hK.out _ _ s3a (fun hHeld => ?_); clear hK K; try simp only [Act.put, List.setIfInBounds_toArray, List.set_cons_zero, List.set_cons_succ])
    clear e9 e9a d9
    (refine rgS 15 (h := fun K hK => ?_); rw [if_pos (by rfl)])
    refine app_stay_wp (cs := olC) (wr := w3) _ _ 33 48 (by rfl) Tryz.underlying33 infoOn rfl (by decide) olC_len _ all ⟨onW (k : Int), mb, .slice none 0 0, .slice none 0 0⟩ HO.out (by rfl) w3.heap.size rfl (by rfl) (olC_one _ rfl rfl) _ rfl (by unfold maxLen; omega) (by omega) ?_
    intro b cap w7 ho7 kk7 hb7
    rw [hn] at ho7 ⊢
    obtain ⟨r7, r8, h8⟩ := H7.out () b cap w7 ho7 (by
      rcases kk7 with ⟨_, k⟩ | ⟨_, k⟩
      · exact k
      · exact k.mono (fun _ e => e.elim)) (kk7.imp (fun c => c.1) (fun c => c.1))
    have H8 : Hid (R (w7.setCell ⟨bb, 9, none⟩ (.slice (some ⟨b, 0, none⟩) (n + 1) cap))) := h8
    have s7 : w7.cell? ⟨bb, 1, none⟩ = some (.pointer (some ⟨l.X.x, 0, none⟩)) ∧ w7.cell? ⟨bb, 3, none⟩ = some (.int .i64 (nb : Int)) := ⟨r7.b1, r7.b3⟩
    have s8 : (w7.setCell ⟨bb, 9, none⟩ (.slice (some ⟨b, 0, none⟩) (n + 1) cap)).cell? ⟨bb, 1, none⟩ = some (.pointer (some ⟨l.X.x, 0, none⟩)) ∧ (w7.setCell ⟨bb, 9, none⟩ (.slice (some ⟨b, 0, none⟩) (n + 1) cap)).cell? ⟨bb, 3, none⟩ = some (.int .i64 (nb : Int)) := ⟨r8.b1, r8.b3⟩
    have d7 := r7.b9
    have f7 := r7.fb 9
    clear r7 r8 h8 ho7 kk7 hb7 H7 HO
    (refine hK.out _ _ s7 (fun hHeld => ?_); clear hK K; try simp only [Act.put, List.setIfInBounds_toArray, List.set_cons_zero, List.set_cons_succ])
    refine rgT 16 (h := ?_)
    refine rgT 17 (h := ?_)
    (refine rgS 18 (h := fun K hK => ?_); go_simp)
    (refine hK.out _ _ s8 (fun hHeld => ?_); clear hK K; try simp only [Act.put, List.setIfInBounds_toArray, List.set_cons_zero, List.set_cons_succ])
    refine wpAnyH_done (by kernel_rfl) ?_ _
    clear hHeld s7 s8 d7 f7
    go_wp2
    exact ⟨rfl, .tuple #[], by simp [results, Tryz.results13], rfl, H8.out⟩
  · refine (HN.out ()).mono ?_
    rintro e w3 ⟨rfl, hm, km, hz⟩
    obtain ⟨r3, o3, F7⟩ := H9.out () w3 hmb hm km hz
    have H7 : Hid (∀ _ : Unit, _) := fun _ => F7
    have HO : Hid (OwG olC 48 12 w3 0 (.slice sp n cp) all) := o3
    have s3 : w3.cell? ⟨bb, 1, none⟩ = some (.pointer (some ⟨l.X.x, 0, none⟩)) ∧ w3.cell? ⟨bb, 3, none⟩ = some (.int .i64 (nb : Int)) := ⟨r3.b1, r3.b3⟩
    have e9 : w3.cell? ⟨bb, 9, none⟩ = some (.slice sp n cp) := r3.b9
    have e9a : (w3.alloc (.cells #[.int .i64 2, .int .i64 0, .pointer none, .pointer (some ⟨mb, 0, none⟩), .pointer none, .bool false, .bool false, .int .i64 (k : Int), .bool false, .int .i64 0, .slice none 0 0, .slice none 0 0] 48)).cell? ⟨bb, 9, none⟩ = some (.slice sp n cp) := (allocC r3.b9).trans r3.b9
    have s3a : (w3.alloc (.cells #[.int .i64 2, .int .i64 0, .pointer none, .pointer (some ⟨mb, 0, none⟩), .pointer none, .bool false, .bool false, .int .i64 (k : Int), .bool false, .int .i64 0, .slice none 0 0, .slice none 0 0] 48)).cell? ⟨bb, 1, none⟩ = some (.pointer (some ⟨l.X.x, 0, none⟩)) ∧ (w3.alloc (.cells #[.int .i64 2, .int .i64 0, .pointer none, .pointer (some ⟨mb, 0, none⟩), .pointer none, .bool false, .bool false, .int .i64 (k : Int), .bool false, .int .i64 0, .slice none 0 0, .slice none 0 0] 48)).cell? ⟨bb, 3, none⟩ = some (.int .i64 (nb : Int)) := ⟨(allocC r3.b1).trans r3.b1, (allocC r3.b3).trans r3.b3⟩
    clear hm km hz r3 o3 F7 HN H9
    (refine hK.out _ _ s3 (fun hHeld => ?_); clear hK K; try simp only [Act.put, List.setIfInBounds_toArray, List.set_cons_zero, List.set_cons_succ])
    refine rgT 13 (h := ?_)
    (refine wpAnyH_ready (rs := [4, 14]) (by kernel_rfl) (by simp) ?_; refine rgA 4 (by rfl) (fun K hK => ?_) (rgA 14 (by rfl) (fun K hK => ?_) AllReadyH.nil) <;> go_simp)
    · (refine hK.out _ _ s3 (fun hHeld => ?_); clear hK K; try simp only [Act.put, List.setIfInBounds_toArray, List.set_cons_zero, List.set_cons_succ])
      (refine rgS 14 (h := fun K hK => ?_); go_simp)
      (refine hK.out _ _ s3a (fun hHeld => ?_); clear hK K; try simp only [Act.put, List.setIfInBounds_toArray, List.set_cons_zero, List.set_cons_succ])
      clear e9 e9a d9
      (refine rgS 15 (h := fun K hK => ?_); rw [if_pos (by rfl)])
      refine app_stay_wp (cs := olC) (wr := w3) _ _ 33 48 (by rfl) Tryz.underlying33 infoOn rfl (by decide) olC_len _ all ⟨onW (k : Int), mb, .slice none 0 0, .slice none 0 0⟩ HO.out (by rfl) w3.heap.size rfl (by rfl) (olC_one _ rfl rfl) _ rfl (by unfold maxLen; omega) (by omega) ?_
      intro b cap w7 ho7 kk7 hb7
      rw [hn] at ho7 ⊢
      obtain ⟨r7, r8, h8⟩ := H7.out () b cap w7 ho7 (by
        rcases kk7 with ⟨_, k⟩ | ⟨_, k⟩
        · exact k
        · exact k.mono (fun _ e => e.elim)) (kk7.imp (fun c => c.1) (fun c => c.1))
      have H8 : Hid (R (w7.setCell ⟨bb, 9, none⟩ (.slice (some ⟨b, 0, none⟩) (n + 1) cap))) := h8
      have s7 : w7.cell? ⟨bb, 1, none⟩ = some (.pointer (some ⟨l.X.x, 0, none⟩)) ∧ w7.cell? ⟨bb, 3, none⟩ = some (.int .i64 (nb : Int)) := ⟨r7.b1, r7.b3⟩
      have s8 : (w7.setCell ⟨bb, 9, none⟩ (.slice (some ⟨b, 0, none⟩) (n + 1) cap)).cell? ⟨bb, 1, none⟩ = some (.pointer (some ⟨l.X.x, 0, none⟩)) ∧ (w7.setCell ⟨bb, 9, none⟩ (.slice (some ⟨b, 0, none⟩) (n + 1) cap)).cell? ⟨bb, 3, none⟩ = some (.int .i64 (nb : Int)) := ⟨r8.b1, r8.b3⟩
      have d7 := r7.b9
      have f7 := r7.fb 9
      clear r7 r8 h8 ho7 kk7 hb7 H7 HO
      (refine hK.out _ _ s7 (fun hHeld => ?_); clear hK K; try simp only [Act.put, List.setIfInBounds_toArray, List.set_cons_zero, List.set_cons_succ])
      refine rgT 16 (h := ?_)
      refine rgT 17 (h := ?_)
      (refine rgS 18 (h := fun K hK => ?_); go_simp)
      (refine hK.out _ _ s8 (fun hHeld => ?_); clear hK K; try simp only [Act.put, List.setIfInBounds_toArray, List.set_cons_zero, List.set_cons_succ])
      refine wpAnyH_done (by kernel_rfl) ?_ _
      clear hHeld s7 s8 d7 f7
      go_wp2
      exact ⟨rfl, .tuple #[], by simp [results, Tryz.results13], rfl, H8.out⟩
    · (refine hK.out _ _ s3a (fun hHeld => ?_); clear hK K; try simp only [Act.put, List.setIfInBounds_toArray, List.set_cons_zero, List.set_cons_succ])
      (refine rgS 4 (h := fun K hK => ?_); go_simp)
      (refine hK.out _ _ s3a (fun hHeld => ?_); clear hK K; try simp only [Act.put, List.setIfInBounds_toArray, List.set_cons_zero, List.set_cons_succ])
      clear e9 e9a d9
      (refine rgS 15 (h := fun K hK => ?_); rw [if_pos (by rfl)])
      refine app_stay_wp (cs := olC) (wr := w3) _ _ 33 48 (by rfl) Tryz.underlying33 infoOn rfl (by decide) olC_len _ all ⟨onW (k : Int), mb, .slice none 0 0, .slice none 0 0⟩ HO.out (by rfl) w3.heap.size rfl (by rfl) (olC_one _ rfl rfl) _ rfl (by unfold maxLen; omega) (by omega) ?_
      intro b cap w7 ho7 kk7 hb7
      rw [hn] at ho7 ⊢
      obtain ⟨r7, r8, h8⟩ := H7.out () b cap w7 ho7 (by
        rcases kk7 with ⟨_, k⟩ | ⟨_, k⟩
        · exact k
        · exact k.mono (fun _ e => e.elim)) (kk7.imp (fun c => c.1) (fun c => c.1))
      have H8 : Hid (R (w7.setCell ⟨bb, 9, none⟩ (.slice (some ⟨b, 0, none⟩) (n + 1) cap))) := h8
      have s7 : w7.cell? ⟨bb, 1, none⟩ = some (.pointer (some ⟨l.X.x, 0, none⟩)) ∧ w7.cell? ⟨bb, 3, none⟩ = some (.int .i64 (nb : Int)) := ⟨r7.b1, r7.b3⟩
      have s8 : (w7.setCell ⟨bb, 9, none⟩ (.slice (some ⟨b, 0, none⟩) (n + 1) cap)).cell? ⟨bb, 1, none⟩ = some (.pointer (some ⟨l.X.x, 0, none⟩)) ∧ (w7.setCell ⟨bb, 9, none⟩ (.slice (some ⟨b, 0, none⟩) (n + 1) cap)).cell? ⟨bb, 3, none⟩ = some (.int .i64 (nb : Int)) := ⟨r8.b1, r8.b3⟩
      have d7 := r7.b9
      have f7 := r7.fb 9
      clear r7 r8 h8 ho7 kk7 hb7 H7 HO
      (refine hK.out _ _ s7 (fun hHeld => ?_); clear hK K; try simp only [Act.put, List.setIfInBounds_toArray, List.set_cons_zero, List.set_cons_succ])
      refine rgT 16 (h := ?_)
      refine rgT 17 (h := ?_)
      (refine rgS 18 (h := fun K hK => ?_); go_simp)
      (refine hK.out _ _ s8 (fun hHeld => ?_); clear hK K; try simp only [Act.put, List.setIfInBounds_toArray, List.set_cons_zero, List.set_cons_succ])
      refine wpAnyH_done (by kernel_rfl) ?_ _
      clear hHeld s7 s8 d7 f7
      go_wp2
      exact ⟨rfl, .tuple #[], by simp [results, Tryz.results13], rfl, H8.out⟩
end Go.Proofs.YteekompojgbkhaaGreat
