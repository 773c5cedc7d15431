import Derived.Test.YtoomekcglniohaaDoorSpI0
namespace Go.Proofs.YtoomekcglniohaaDoor
set_option linter.unusedSimpArgs false
open Go.ChangeShapes Go.WideShapes Go.ChangeAt Go.RowKit
set_option linter.unusedVariables false
set_option maxRecDepth 100000
set_option maxHeartbeats 8000000 in
theorem printT (r : RP) (na : Option Addr) (nc : Nat) (ra : Option Addr) (rc : Nat) (ma : Option Addr) (mc : Nat) (B b : Nat) (l : List UInt8) (w : World) (hB : B ≤ w.heap.size) (hB2 : 2 ≤ B) (hr : ROK r)
    (hbl : Bl w B b l) (hn : SeesG Value.string w B (.slice na r.names.length nc) r.names) (hw : SeesRs w B (.slice ra r.rows.length rc) r.rows) (hm : SeesG (Value.int .i64) w B (.slice ma r.nums.length mc) r.nums)
    (hlen : l.length + (repL r).length ≤ 70368744177664) (hg : GW w) :
    Calls Tryd.prog 8 #[.pointer (some ⟨b, 0, none⟩), .agg #[.int .i64 r.cmd, .int .i64 r.kind, .int .i64 r.who, .int .i64 r.code, .int .i64 r.rcode, .slice na r.names.length nc, .slice ra r.rows.length rc, .int .i64 r.count, .int .u64 r.stamp, .int .i64 r.fin, .slice ma r.nums.length mc]] w fun e w' => e = .returned (.tuple #[]) ∧ Bl w' B b (l ++ repL r) ∧ Below B w w' := by
  have hbw := hbl.lt
  have HP : Hid (PrS w (w.alloc (.cells #[.int .i64 r.cmd, .int .i64 r.kind, .int .i64 r.who, .int .i64 r.code, .int .i64 r.rcode, .slice na r.names.length nc, .slice ra r.rows.length rc, .int .i64 r.count, .int .u64 r.stamp, .int .i64 r.fin, .slice ma r.nums.length mc] 32)) B b #[.int .i64 r.cmd, .int .i64 r.kind, .int .i64 r.who, .int .i64 r.code, .int .i64 r.rcode, .slice na r.names.length nc, .slice ra r.rows.length rc, .int .i64 r.count, .int .u64 r.stamp, .int .i64 r.fin, .slice ma r.nums.length mc] l) := ⟨(Below.refl _ _).alloc hB _, hbl.next ((Below.refl _ _).alloc (Nat.le_refl _) _), heap_new _ _⟩
  have HG : Hid (GW w) := hg
  have HN : Hid (SeesG Value.string w B (.slice na r.names.length nc) r.names) := hn
  have HW : Hid (SeesRs w B (.slice ra r.rows.length rc) r.rows) := hw
  have HM : Hid (SeesG (Value.int .i64) w B (.slice ma r.nums.length mc) r.nums) := hm
  have HR : Hid (ROK r) := hr
  have hl46 : l.length ≤ 70368744177664 := by omega
  have HL46 : Hid (l.length ≤ 70368744177664) := hl46
  clear hl46
  have HLEN : Hid (l.length + (repL r).length ≤ 70368744177664) := hlen
  have HI : Hid (∀ W, GW W → _) := fun W (h : GW W) => itoaT r.cmd hr.cmd.1 hr.cmd.2 W h
  have HH : Hid (∀ W, GW W → _) := fun W (h : GW W) => headT r.cmd r.kind r.who r.code r.rcode na r.names.length nc ra r.rows.length rc r.count r.stamp r.fin ma r.nums.length mc hr.who.1 hr.who.2 W h
  have HC : Hid (∀ W, GW W → _) := fun W (h : GW W) => codeT r.code hr.code.1 hr.code.2 W h
  have z1 : (tx (Lib.itoa r.cmd)).size ≤ 22 := by rw [tx_size]; exact itoa_len _ hr.cmd.1 (by have := hr.cmd.2; omega)
  have z2 : (tx (headL r.kind r.who)).size ≤ 23 := by rw [tx_size]; exact head_len _ _ hr.who
  have z3 : (tx (codeL r.code)).size ≤ 23 := by rw [tx_size]; exact code_len _ hr.code
  have HT : Hid (((((tx (Lib.itoa r.cmd) ++ ⟨#[32]⟩) ++ tx (headL r.kind r.who)) ++ ⟨#[32]⟩) ++ tx (codeL r.code)).data.toList = begL r) := by
    show ((((tx (Lib.itoa r.cmd) ++ tx [32]) ++ tx (headL r.kind r.who)) ++ tx [32]) ++ tx (codeL r.code)).data.toList = _
    rw [tx_app, tx_app, tx_app, tx_app, tx_list]
    rfl
  unfold repV at HH
  clear hn hw hm hr hg hlen hbl
  generalize tx (Lib.itoa r.cmd) = X1 at *
  generalize tx (headL r.kind r.who) = X2 at *
  generalize tx (codeL r.code) = X3 at *
  have l32 : ByteArray.size ⟨#[32]⟩ = 1 := rfl
  have a1 := sadd X1 ⟨#[32]⟩ (by rw [l32]; omega)
  have a2 := sadd (X1 ++ ⟨#[32]⟩) X2 (by simp only [sz7, l32]; omega)
  have a3 := sadd ((X1 ++ ⟨#[32]⟩) ++ X2) ⟨#[32]⟩ (by simp only [sz7, l32]; omega)
  have a4 := sadd (((X1 ++ ⟨#[32]⟩) ++ X2) ++ ⟨#[32]⟩) X3 (by simp only [sz7, l32]; omega)
  have hz : (((((X1 ++ ⟨#[32]⟩) ++ X2) ++ ⟨#[32]⟩) ++ X3)).size ≤ 70 := by simp only [sz7, l32]; omega
  have HZ : Hid ((((((X1 ++ ⟨#[32]⟩) ++ X2) ++ ⟨#[32]⟩) ++ X3)).size ≤ 70) := hz
  clear hz
  clear l32
  go_enter Tryd.func8, Tryd.ntmps8
  go_wp2_with fail
  generalize w.alloc (.cells #[.int .i64 r.cmd, .int .i64 r.kind, .int .i64 r.who, .int .i64 r.code, .int .i64 r.rcode, .slice na r.names.length nc, .slice ra r.rows.length rc, .int .i64 r.count, .int .u64 r.stamp, .int .i64 r.fin, .slice ma r.nums.length mc] 32) = W1 at *
  have HS : Hid (∀ W l, PrS w W B b #[.int .i64 r.cmd, .int .i64 r.kind, .int .i64 r.who, .int .i64 r.code, .int .i64 r.rcode, .slice na r.names.length nc, .slice ra r.rows.length rc, .int .i64 r.count, .int .u64 r.stamp, .int .i64 r.fin, .slice ma r.nums.length mc] l → (W.cell? ⟨w.heap.size, 0, none⟩ = some (.int .i64 r.cmd) ∧ W.cell? ⟨w.heap.size, 1, none⟩ = some (.int .i64 r.kind) ∧ W.cell? ⟨w.heap.size, 2, none⟩ = some (.int .i64 r.who) ∧ W.cell? ⟨w.heap.size, 3, none⟩ = some (.int .i64 r.code) ∧ W.cell? ⟨w.heap.size, 4, none⟩ = some (.int .i64 r.rcode) ∧ W.cell? ⟨w.heap.size, 5, none⟩ = some (.slice na r.names.length nc) ∧ W.cell? ⟨w.heap.size, 6, none⟩ = some (.slice ra r.rows.length rc) ∧ W.cell? ⟨w.heap.size, 7, none⟩ = some (.int .i64 r.count) ∧ W.cell? ⟨w.heap.size, 8, none⟩ = some (.int .u64 r.stamp) ∧ W.cell? ⟨w.heap.size, 9, none⟩ = some (.int .i64 r.fin) ∧ W.cell? ⟨w.heap.size, 10, none⟩ = some (.slice ma r.nums.length mc))) := fun W l h => ⟨h.cell 0, h.cell 1, h.cell 2, h.cell 3, h.cell 4, h.cell 5, h.cell 6, h.cell 7, h.cell 8, h.cell 9, h.cell 10⟩
  (refine wp_region_held_drew (S := (fun w' => w'.cell? ⟨w.heap.size, 0, none⟩ = some (.int .i64 r.cmd) ∧ w'.cell? ⟨w.heap.size, 1, none⟩ = some (.int .i64 r.kind) ∧ w'.cell? ⟨w.heap.size, 2, none⟩ = some (.int .i64 r.who) ∧ w'.cell? ⟨w.heap.size, 3, none⟩ = some (.int .i64 r.code) ∧ w'.cell? ⟨w.heap.size, 4, none⟩ = some (.int .i64 r.rcode) ∧ w'.cell? ⟨w.heap.size, 5, none⟩ = some (.slice na r.names.length nc) ∧ w'.cell? ⟨w.heap.size, 6, none⟩ = some (.slice ra r.rows.length rc) ∧ w'.cell? ⟨w.heap.size, 7, none⟩ = some (.int .i64 r.count) ∧ w'.cell? ⟨w.heap.size, 8, none⟩ = some (.int .u64 r.stamp) ∧ w'.cell? ⟨w.heap.size, 9, none⟩ = some (.int .i64 r.fin) ∧ w'.cell? ⟨w.heap.size, 10, none⟩ = some (.slice ma r.nums.length mc))) (by kernel_rfl) (HS.out _ _ HP.out.drew) (fun hHeld => ?_); simp only [List.size_toArray, List.length_cons, List.length_nil, Nat.reduceAdd, Array.replicate_succ, Array.replicate_zero, List.push_toArray, List.append_toArray, List.nil_append, List.cons_append])
  have HP1 : Hid (PrS w W1.drew B b #[.int .i64 r.cmd, .int .i64 r.kind, .int .i64 r.who, .int .i64 r.code, .int .i64 r.rcode, .slice na r.names.length nc, .slice ra r.rows.length rc, .int .i64 r.count, .int .u64 r.stamp, .int .i64 r.fin, .slice ma r.nums.length mc] l) := HP.out.drew
  generalize W1.drew = W2 at *
  (refine tk0 (v := ?_) (by kernel_rfl) (by kernel_rfl) (by kernel_rfl) (fun _ _ _ h => h) (Or.inl ⟨by rfl, ?_⟩) (by assumption) ?_; rotate_left; (focus (intro w hSw; (try dsimp only at hSw); go_simp; (try first | (rw [dif_pos (by omega)]; simp only [Result.andThen_ok]) | rw [if_pos (by omega)]); (try with_reducible rfl); done)); try simp only [Act.put, List.setIfInBounds_toArray, List.set_cons_zero, List.set_cons_succ])
  (refine tk1 (v := ?_) (by kernel_rfl) (by kernel_rfl) (by kernel_rfl) (fun _ _ _ h => h) (Or.inl ⟨by rfl, ?_⟩) (by assumption) ?_; rotate_left; (focus (intro w hSw; (try dsimp only at hSw); go_simp; (try first | (rw [dif_pos (by omega)]; simp only [Result.andThen_ok]) | rw [if_pos (by omega)]); (try with_reducible rfl); done)); try simp only [Act.put, List.setIfInBounds_toArray, List.set_cons_zero, List.set_cons_succ])
  (refine tk2 (v := ?_) (by kernel_rfl) (by kernel_rfl) (by kernel_rfl) (fun _ _ _ h => h) (Or.inl ⟨by rfl, ?_⟩) (by assumption) ?_; rotate_left; (focus (intro w hSw; (try dsimp only at hSw); go_simp; (try first | (rw [dif_pos (by omega)]; simp only [Result.andThen_ok]) | rw [if_pos (by omega)]); (try with_reducible rfl); done)); try simp only [Act.put, List.setIfInBounds_toArray, List.set_cons_zero, List.set_cons_succ])
  (refine tk5 (v := ?_) (by kernel_rfl) (by kernel_rfl) (by kernel_rfl) (fun _ _ _ h => h) (Or.inl ⟨by rfl, ?_⟩) (by assumption) ?_; rotate_left; (focus (intro w hSw; (try dsimp only at hSw); go_simp; (try first | (rw [dif_pos (by omega)]; simp only [Result.andThen_ok]) | rw [if_pos (by omega)]); (try with_reducible rfl); done)); try simp only [Act.put, List.setIfInBounds_toArray, List.set_cons_zero, List.set_cons_succ])
  (refine tk9 (v := ?_) (by kernel_rfl) (by kernel_rfl) (by kernel_rfl) (fun _ _ _ h => h) (Or.inl ⟨by rfl, ?_⟩) (by assumption) ?_; rotate_left; (focus (intro w hSw; (try dsimp only at hSw); go_simp; (try first | (rw [dif_pos (by omega)]; simp only [Result.andThen_ok]) | rw [if_pos (by omega)]); (try with_reducible rfl); done)); try simp only [Act.put, List.setIfInBounds_toArray, List.set_cons_zero, List.set_cons_succ])
  (refine tk10 (v := ?_) (by kernel_rfl) (by kernel_rfl) (by kernel_rfl) (fun _ _ _ h => h) (Or.inl ⟨by rfl, ?_⟩) (by assumption) ?_; rotate_left; (focus (intro w hSw; (try dsimp only at hSw); go_simp; (try first | (rw [dif_pos (by omega)]; simp only [Result.andThen_ok]) | rw [if_pos (by omega)]); (try with_reducible rfl); done)); try simp only [Act.put, List.setIfInBounds_toArray, List.set_cons_zero, List.set_cons_succ])
  (refine wpAnyH_ready (rs := [3]) (by kernel_rfl) (by simp) ?_; refine ar3 (fun K hK => ?_) AllReadyH.nil; go_simp)
  refine (HI.out _ (HP1.out.gw HG.out hB2)).mono ?_
  rintro e w3 ⟨rfl, hb3⟩
  have HP3 : Hid (PrS w w3 B b #[.int .i64 r.cmd, .int .i64 r.kind, .int .i64 r.who, .int .i64 r.code, .int .i64 r.rcode, .slice na r.names.length nc, .slice ra r.rows.length rc, .int .i64 r.count, .int .u64 r.stamp, .int .i64 r.fin, .slice ma r.nums.length mc] l) := HP1.out.call hB hb3
  clear hb3
  (refine hK.out _ _ (HS.out _ _ HP3.out) (fun hHeld => ?_); clear hK K; try simp only [Act.put, List.setIfInBounds_toArray, List.set_cons_zero, List.set_cons_succ])
  (refine tk4 (v := ?_) (by kernel_rfl) (by kernel_rfl) (by kernel_rfl) (fun _ _ _ h => h) (Or.inl ⟨by rfl, ?_⟩) (by assumption) ?_; rotate_left; (focus (intro w hSw; (try dsimp only at hSw); go_simp; (try first | (rw [dif_pos (by omega)]; simp only [Result.andThen_ok]) | rw [if_pos (by omega)]); (try with_reducible rfl); done)); try simp only [Act.put, List.setIfInBounds_toArray, List.set_cons_zero, List.set_cons_succ])
  (refine wpAnyH_ready (rs := [6]) (by kernel_rfl) (by simp) ?_; refine ar6 (fun K hK => ?_) AllReadyH.nil; go_simp)
  refine (HH.out _ (HP3.out.gw HG.out hB2)).mono ?_
  rintro e w4 ⟨rfl, hb4⟩
  have HP4 : Hid (PrS w w4 B b #[.int .i64 r.cmd, .int .i64 r.kind, .int .i64 r.who, .int .i64 r.code, .int .i64 r.rcode, .slice na r.names.length nc, .slice ra r.rows.length rc, .int .i64 r.count, .int .u64 r.stamp, .int .i64 r.fin, .slice ma r.nums.length mc] l) := HP3.out.call hB hb4
  clear hb4
  (refine hK.out _ _ (HS.out _ _ HP4.out) (fun hHeld => ?_); clear hK K; try simp only [Act.put, List.setIfInBounds_toArray, List.set_cons_zero, List.set_cons_succ])
  (refine tk7 (v := ?_) (by kernel_rfl) (by kernel_rfl) (by kernel_rfl) (fun _ _ _ h => h) (Or.inl ⟨by rfl, ?_⟩) (by assumption) ?_; rotate_left; (focus (intro w hSw; (try dsimp only at hSw); go_simp; (try first | (rw [dif_pos (by omega)]; simp only [Result.andThen_ok]) | rw [if_pos (by omega)]); (try with_reducible rfl); done)); try simp only [Act.put, List.setIfInBounds_toArray, List.set_cons_zero, List.set_cons_succ])
  (refine tk8 (v := ?_) (by kernel_rfl) (by kernel_rfl) (by kernel_rfl) (fun _ _ _ h => h) (Or.inl ⟨by rfl, ?_⟩) (by assumption) ?_; rotate_left; (focus (intro w hSw; (try dsimp only at hSw); go_simp; (try first | (rw [dif_pos (by omega)]; simp only [Result.andThen_ok]) | rw [if_pos (by omega)]); (try with_reducible rfl); done)); try simp only [Act.put, List.setIfInBounds_toArray, List.set_cons_zero, List.set_cons_succ])
  (refine wpAnyH_ready (rs := [11]) (by kernel_rfl) (by simp) ?_; refine ar11 (fun K hK => ?_) AllReadyH.nil; go_simp)
  refine (HC.out _ (HP4.out.gw HG.out hB2)).mono ?_
  rintro e w5 ⟨rfl, hb5⟩
  have HP5 : Hid (PrS w w5 B b #[.int .i64 r.cmd, .int .i64 r.kind, .int .i64 r.who, .int .i64 r.code, .int .i64 r.rcode, .slice na r.names.length nc, .slice ra r.rows.length rc, .int .i64 r.count, .int .u64 r.stamp, .int .i64 r.fin, .slice ma r.nums.length mc] l) := HP4.out.call hB hb5
  clear hb5
  (refine hK.out _ _ (HS.out _ _ HP5.out) (fun hHeld => ?_); clear hK K; try simp only [Act.put, List.setIfInBounds_toArray, List.set_cons_zero, List.set_cons_succ])
  (refine tk12 (v := ?_) (by kernel_rfl) (by kernel_rfl) (by kernel_rfl) (fun _ _ _ h => h) (Or.inl ⟨by rfl, ?_⟩) (by assumption) ?_; rotate_left; (focus (intro w hSw; (try dsimp only at hSw); go_simp; (try first | (rw [dif_pos (by omega)]; simp only [Result.andThen_ok]) | rw [if_pos (by omega)]); (try with_reducible rfl); done)); try simp only [Act.put, List.setIfInBounds_toArray, List.set_cons_zero, List.set_cons_succ])
  (refine wpAnyH_ready (rs := [13]) (by kernel_rfl) (by simp) ?_; refine ar13 (fun K hK => ?_) AllReadyH.nil; go_simp)
  have hb0 : l.length + ((((X1 ++ ⟨#[32]⟩) ++ X2) ++ ⟨#[32]⟩) ++ X3).size ≤ 140737488355328 := Nat.le_trans (Nat.add_le_add HL46.out HZ.out) (by decide)
  generalize ((((X1 ++ ⟨#[32]⟩) ++ X2) ++ ⟨#[32]⟩) ++ X3) = T at *
  have HWR : Hid (∀ _ : Unit, _) := fun _ => writeT B b l T w5 HP5.out.bl hb0 (HP5.out.le hB)
  clear hb0
  refine (HWR.out ()).mono ?_
  rintro e w6 ⟨rfl, hb6, hb7, hb8⟩
  have HP6 : Hid (PrS w w6 B b #[.int .i64 r.cmd, .int .i64 r.kind, .int .i64 r.who, .int .i64 r.code, .int .i64 r.rcode, .slice na r.names.length nc, .slice ra r.rows.length rc, .int .i64 r.count, .int .u64 r.stamp, .int .i64 r.fin, .slice ma r.nums.length mc] (l ++ begL r)) := by
    have := HP5.out.wrote hbw.2 hb6 hb7 hb8
    rw [HT.out] at this
    exact this
  clear hb6 hb7 hb8 HWR
  (refine hK.out _ _ (HS.out _ _ HP6.out) (fun hHeld => ?_); clear hK K; try simp only [Act.put, List.setIfInBounds_toArray, List.set_cons_zero, List.set_cons_succ])
  refine wpAnyH_done (by kernel_rfl) ?_ _
  clear HP HP1 HP3 HP4 HP5 HI HH HC HT HZ a1 a2 a3 a4 z1 z2 z3
  obtain ⟨k0, k1, k2, k3, k4, k5, k6, k7, k8, k9, k10⟩ := HS.out _ _ HP6.out
  by_cases hk : r.kind = 1
  case neg =>
    have hkb : (r.kind != 1) = true := by simp [hk]
    have HREP : Hid (l ++ repL r = l ++ begL r ++ r.nums.flatMap (fun n => 32 :: Lib.itoa n) ++ [10]) := by
      show l ++ repL r = l ++ begL r ++ r.nums.flatMap (fun n => 32 :: Lib.itoa n) ++ [10]
      unfold repL
      rw [if_neg hk]
      simp only [List.append_assoc]
    have HBND : Hid (∀ k, (l ++ begL r ++ (r.nums.take k).flatMap (fun n => 32 :: Lib.itoa n)).length ≤ 70368744177664) := by
      show ∀ k, (l ++ begL r ++ (r.nums.take k).flatMap (fun n => 32 :: Lib.itoa n)).length ≤ 70368744177664
      intro k
      have h1 := flat_take_le (fun n => 32 :: Lib.itoa n) r.nums k
      have h2 := HLEN.out
      have h3 : (l ++ repL r).length ≤ 70368744177664 := by rw [List.length_append]; exact h2
      rw [HREP.out] at h3
      simp only [List.length_append] at h3 ⊢
      omega
    clear hk HLEN HL46
    have hNl := HR.out.numsN
    go_wp2_with fail
    go_loopw [5, 28] (fun _ x wr => ∃ k : Nat, k ≤ r.nums.length ∧ x = .int .i64 (k : Int) ∧ PrS w wr B b #[.int .i64 r.cmd, .int .i64 r.kind, .int .i64 r.who, .int .i64 r.code, .int .i64 r.rcode, .slice na r.names.length nc, .slice ra r.rows.length rc, .int .i64 r.count, .int .u64 r.stamp, .int .i64 r.fin, .slice ma r.nums.length mc] (l ++ begL r ++ (r.nums.take k).flatMap (fun n => 32 :: Lib.itoa n))) (fun _ x _ => r.nums.length - (intOf x).toNat)
    case atStart => exact ⟨0, by omega, rfl, by simpa using HP6.out⟩
    case round =>
      obtain ⟨k, hk, rfl, hp⟩ := hrel
      have HPr : Hid (PrS w wr B b #[.int .i64 r.cmd, .int .i64 r.kind, .int .i64 r.who, .int .i64 r.code, .int .i64 r.rcode, .slice na r.names.length nc, .slice ra r.rows.length rc, .int .i64 r.count, .int .u64 r.stamp, .int .i64 r.fin, .slice ma r.nums.length mc] (l ++ begL r ++ (r.nums.take k).flatMap (fun n => 32 :: Lib.itoa n))) := hp
      clear hp k0 k1 k2 k3 k4 k5 k6 k7 k8 k9 k10 HP6
      by_cases hkl : k < r.nums.length
      · have hki : (k : Int) < (r.nums.length : Int) := by omega
        have HNX : Hid (l ++ begL r ++ (r.nums.take k).flatMap (fun n => 32 :: Lib.itoa n) ++ (32 :: Lib.itoa r.nums[k]) = l ++ begL r ++ (r.nums.take (k + 1)).flatMap (fun n => 32 :: Lib.itoa n)) := by
          show l ++ begL r ++ (r.nums.take k).flatMap (fun n => 32 :: Lib.itoa n) ++ (32 :: Lib.itoa r.nums[k]) = l ++ begL r ++ (r.nums.take (k + 1)).flatMap (fun n => 32 :: Lib.itoa n)
          rw [flat_take _ _ _ hkl]
          simp only [List.append_assoc]
        obtain ⟨bb, off, rfl, x0⟩ := (HM.out.later (HPr.out.bel)).cell k hkl
        have HIT : Hid (∀ _ : Unit, _) := fun _ => itoaT r.nums[k] (HR.out.nums k hkl).1 (HR.out.nums k hkl).2 wr (HPr.out.gw HG.out hB2)
        have hz : (tx (Lib.itoa r.nums[k])).size ≤ 22 := by rw [tx_size]; exact itoa_len _ (HR.out.nums k hkl).1 (by have := (HR.out.nums k hkl).2; omega)
        have HTX : Hid ((⟨#[32]⟩ ++ tx (Lib.itoa r.nums[k])).data.toList = 32 :: Lib.itoa r.nums[k]) := by
          show (tx [32] ++ tx (Lib.itoa r.nums[k])).data.toList = _
          rw [tx_app, tx_list]
          rfl
        have HBK : Hid ((l ++ begL r ++ (r.nums.take k).flatMap (fun n => 32 :: Lib.itoa n)).length ≤ 70368744177664) := HBND.out k
        rw [← HTX.out] at HNX
        generalize tx (Lib.itoa r.nums[k]) = X at *
        generalize r.nums[k] = n at *
        generalize l ++ begL r ++ (r.nums.take k).flatMap (fun n => 32 :: Lib.itoa n) = L at *
        clear HTX
        have a1 := sadd ⟨#[32]⟩ X (by show 1 + X.size ≤ _; omega)
        have hzz : (⟨#[32]⟩ ++ X).size ≤ 23 := by rw [sz7]; show 1 + X.size ≤ 23; omega
        go_wp2_with fail
        refine (HIT.out ()).mono ?_
        rintro e w7 ⟨rfl, hb7⟩
        have HP7 : Hid (PrS w w7 B b #[.int .i64 r.cmd, .int .i64 r.kind, .int .i64 r.who, .int .i64 r.code, .int .i64 r.rcode, .slice na r.names.length nc, .slice ra r.rows.length rc, .int .i64 r.count, .int .u64 r.stamp, .int .i64 r.fin, .slice (some ⟨bb, off, none⟩) r.nums.length mc] L) := HPr.out.call hB hb7
        clear hb7
        go_wp2_with fail
        generalize ⟨#[32]⟩ ++ X = T at *
        have HWR : Hid (∀ _ : Unit, _) := fun _ => writeT B b L T w7 HP7.out.bl (Nat.le_trans (Nat.add_le_add HBK.out hzz) (by decide)) (HP7.out.le hB)
        refine (HWR.out ()).mono ?_
        rintro e w8 ⟨rfl, hb8, hb9, hb10⟩
        have HP8 : Hid (PrS w w8 B b #[.int .i64 r.cmd, .int .i64 r.kind, .int .i64 r.who, .int .i64 r.code, .int .i64 r.rcode, .slice na r.names.length nc, .slice ra r.rows.length rc, .int .i64 r.count, .int .u64 r.stamp, .int .i64 r.fin, .slice (some ⟨bb, off, none⟩) r.nums.length mc] (L ++ T.data.toList)) := HP7.out.wrote hbw.2 hb8 hb9 hb10
        rw [HNX.out] at HP8
        clear hb8 hb9 hb10 HWR a1
        go_wp2
        go_roundw
        case rel => exact ⟨k + 1, by omega, by go_num, HP8.out⟩
        case measure => simp [intOf]; omega
      · have hki : ¬ (k : Int) < (r.nums.length : Int) := by omega
        have hke : k = r.nums.length := by omega
        have HPk : Hid (PrS w wr B b #[.int .i64 r.cmd, .int .i64 r.kind, .int .i64 r.who, .int .i64 r.code, .int .i64 r.rcode, .slice na r.names.length nc, .slice ra r.rows.length rc, .int .i64 r.count, .int .u64 r.stamp, .int .i64 r.fin, .slice ma r.nums.length mc] (l ++ begL r ++ r.nums.flatMap (fun n => 32 :: Lib.itoa n))) := by
          have := HPr.out
          rw [hke, List.take_length] at this
          exact this
        have HBK : Hid ((l ++ begL r ++ r.nums.flatMap (fun n => 32 :: Lib.itoa n)).length ≤ 70368744177664) := by
          have := HBND.out r.nums.length
          rw [List.take_length] at this
          exact this
        clear HPr hke
        generalize l ++ begL r ++ r.nums.flatMap (fun n => 32 :: Lib.itoa n) = L at *
        go_wp2_with fail
        have HWR : Hid (∀ _ : Unit, _) := fun _ => writeT B b L ⟨#[10]⟩ wr HPk.out.bl (Nat.le_trans (Nat.add_le_add HBK.out (show ByteArray.size ⟨#[10]⟩ ≤ 1 from Nat.le_refl _)) (by decide)) (HPk.out.le hB)
        refine (HWR.out ()).mono ?_
        rintro e w8 ⟨rfl, hb8, hb9, hb10⟩
        have HP8 : Hid (PrS w w8 B b #[.int .i64 r.cmd, .int .i64 r.kind, .int .i64 r.who, .int .i64 r.code, .int .i64 r.rcode, .slice na r.names.length nc, .slice ra r.rows.length rc, .int .i64 r.count, .int .u64 r.stamp, .int .i64 r.fin, .slice ma r.nums.length mc] (L ++ [10])) := HPk.out.wrote hbw.2 hb8 hb9 hb10
        clear hb8 hb9 hb10 HWR
        go_wp2
        exact bodyPost_ret (results_none rfl _ _ _) rfl ⟨rfl, by rw [HREP.out]; exact HP8.out.bl, HP8.out.bel⟩
  have hkb : (r.kind != 1) = false := by simp [hk]
  have HRE : Hid (l ++ repL r = l ++ begL r ++ (endL r.count r.stamp r.fin ++ [10]) ++ tailL r) := by
    show l ++ repL r = l ++ begL r ++ (endL r.count r.stamp r.fin ++ [10]) ++ tailL r
    unfold repL
    rw [if_pos hk]
    simp only [List.append_assoc]
  have HB0 : Hid ((l ++ begL r).length ≤ 70368744177664) := by
    show (l ++ begL r).length ≤ 70368744177664
    have h3 : (l ++ repL r).length ≤ 70368744177664 := by rw [List.length_append]; exact HLEN.out
    rw [HRE.out] at h3
    simp only [List.length_append] at h3 ⊢
    omega
  have HB1 : Hid ((l ++ begL r ++ (endL r.count r.stamp r.fin ++ [10]) ++ tailL r).length ≤ 70368744177664) := by
    show (l ++ begL r ++ (endL r.count r.stamp r.fin ++ [10]) ++ tailL r).length ≤ 70368744177664
    have h3 : (l ++ repL r).length ≤ 70368744177664 := by rw [List.length_append]; exact HLEN.out
    rw [HRE.out] at h3
    exact h3
  have HET : Hid (∀ W, GW W → _) := fun W (h : GW W) => endT r.rcode na r.names.length nc ra r.rows.length rc r.count r.stamp r.fin HR.out.count.1 HR.out.count.2 HR.out.stamp.1 HR.out.stamp.2 W h
  have hz : (tx (endL r.count r.stamp r.fin)).size ≤ 70 := by rw [tx_size]; exact end_len _ _ _ HR.out.count HR.out.stamp
  have HTX : Hid ((tx (endL r.count r.stamp r.fin) ++ ⟨#[10]⟩).data.toList = endL r.count r.stamp r.fin ++ [10]) := by
    show (tx (endL r.count r.stamp r.fin) ++ tx [10]).data.toList = _
    rw [tx_app, tx_list]
  unfold resV at HET
  clear hk HLEN HL46
  rw [← HTX.out] at HRE HB1
  generalize tx (endL r.count r.stamp r.fin) = X at *
  clear HTX
  have a1 := sadd X ⟨#[10]⟩ (by show X.size + 1 ≤ _; omega)
  have hzz : (X ++ ⟨#[10]⟩).size ≤ 71 := by rw [sz7]; show X.size + 1 ≤ 71; omega
  go_wp2_with fail
  refine (HET.out _ (HP6.out.gw HG.out hB2)).mono ?_
  rintro e w7 ⟨rfl, hb7⟩
  have HP7 : Hid (PrS w w7 B b #[.int .i64 r.cmd, .int .i64 r.kind, .int .i64 r.who, .int .i64 r.code, .int .i64 r.rcode, .slice na r.names.length nc, .slice ra r.rows.length rc, .int .i64 r.count, .int .u64 r.stamp, .int .i64 r.fin, .slice ma r.nums.length mc] (l ++ begL r)) := HP6.out.call hB hb7
  clear hb7 k0 k1 k2 k3 k4 k5 k6 k7 k8 k9 k10 HP6 HET
  generalize l ++ begL r = L at *
  go_wp2_with fail
  generalize X ++ ⟨#[10]⟩ = T at *
  have HWR : Hid (∀ _ : Unit, _) := fun _ => writeT B b L T w7 HP7.out.bl (Nat.le_trans (Nat.add_le_add HB0.out hzz) (by decide)) (HP7.out.le hB)
  refine (HWR.out ()).mono ?_
  rintro e w8 ⟨rfl, hb8, hb9, hb10⟩
  have HP8 : Hid (PrS w w8 B b #[.int .i64 r.cmd, .int .i64 r.kind, .int .i64 r.who, .int .i64 r.code, .int .i64 r.rcode, .slice na r.names.length nc, .slice ra r.rows.length rc, .int .i64 r.count, .int .u64 r.stamp, .int .i64 r.fin, .slice ma r.nums.length mc] (L ++ T.data.toList)) := HP7.out.wrote hbw.2 hb8 hb9 hb10
  clear hb8 hb9 hb10 HWR a1 HP7 HB0
  generalize L ++ T.data.toList = M at *
  obtain ⟨k0, k1, k2, k3, k4, k5, k6, k7, k8, k9, k10⟩ := HS.out _ _ HP8.out
  by_cases hn0 : r.names = []
  · have hl0 : r.names.length = 0 := by rw [hn0]; rfl
    have HT0 : Hid (tailL r = []) := by
      show tailL r = []
      unfold tailL
      rw [if_pos hn0]
    have hlb : ((r.names.length : Int) == 0) = true := by rw [hl0]; rfl
    clear hn0
    go_wp2
    exact bodyPost_ret (results_none rfl _ _ _) rfl ⟨rfl, by rw [HRE.out, HT0.out, List.append_nil]; exact HP8.out.bl, HP8.out.bel⟩
  have hlb : ((r.names.length : Int) == 0) = false := by
    have : r.names.length ≠ 0 := fun h => hn0 (List.length_eq_zero_iff.1 h)
    rw [beq_eq_false_iff_ne]
    omega
  have HT1 : Hid (tailL r = ([124, 32] ++ listL (r.names.map quotL) ++ [10]) ++ r.rows.flatMap rowL) := by
    show tailL r = _
    unfold tailL
    rw [if_neg hn0]
  rw [HT1.out] at HRE HB1
  have hll : (M ++ (([124, 32] ++ listL (r.names.map quotL) ++ [10]) ++ r.rows.flatMap rowL)).length ≤ 70368744177664 := HB1.out
  have HB2 : Hid (∀ k, (M ++ ([124, 32] ++ listL (r.names.map quotL) ++ [10]) ++ (r.rows.take k).flatMap rowL).length ≤ 70368744177664) := by
    show ∀ k, (M ++ ([124, 32] ++ listL (r.names.map quotL) ++ [10]) ++ (r.rows.take k).flatMap rowL).length ≤ 70368744177664
    intro k
    have h1 := flat_take_le rowL r.rows k
    simp only [List.length_append] at hll ⊢
    omega
  have hq : (listL (r.names.map quotL)).length ≤ 70368744177664 := by
    simp only [List.length_append] at hll
    omega
  have hM : M.length ≤ 70368744177664 := by
    simp only [List.length_append] at hll
    omega
  have HM0 : Hid (M.length ≤ 70368744177664) := hM
  have HNT : Hid (∀ W, PrS w W B b #[.int .i64 r.cmd, .int .i64 r.kind, .int .i64 r.who, .int .i64 r.code, .int .i64 r.rcode, .slice na r.names.length nc, .slice ra r.rows.length rc, .int .i64 r.count, .int .u64 r.stamp, .int .i64 r.fin, .slice ma r.nums.length mc] M → _) := fun W (h : PrS w W B b #[.int .i64 r.cmd, .int .i64 r.kind, .int .i64 r.who, .int .i64 r.code, .int .i64 r.rcode, .slice na r.names.length nc, .slice ra r.rows.length rc, .int .i64 r.count, .int .u64 r.stamp, .int .i64 r.fin, .slice ma r.nums.length mc] M) => namesT _ r.names B W (h.le hB) (HN.out.later h.bel) HR.out.namesN HR.out.names hq (h.gw HG.out hB2)
  have hzn : (tx (listL (r.names.map quotL))).size ≤ 70368744177664 := by rw [tx_size]; exact hq
  have HTX : Hid (((⟨#[124, 32]⟩ ++ tx (listL (r.names.map quotL))) ++ ⟨#[10]⟩).data.toList = [124, 32] ++ listL (r.names.map quotL) ++ [10]) := by
    show ((tx [124, 32] ++ tx (listL (r.names.map quotL))) ++ tx [10]).data.toList = _
    rw [tx_app, tx_app, tx_list]
  have HMT : Hid (M.length + ((⟨#[124, 32]⟩ ++ tx (listL (r.names.map quotL))) ++ ⟨#[10]⟩).size ≤ 140737488355328) := by
    show M.length + ((⟨#[124, 32]⟩ ++ tx (listL (r.names.map quotL))) ++ ⟨#[10]⟩).size ≤ 140737488355328
    have h1 := HB2.out 0
    simp only [List.length_append, List.take_zero, List.flatMap_nil, List.length_nil, List.length_cons] at h1
    rw [sz7, sz7, tx_size]
    show M.length + (2 + (listL (r.names.map quotL)).length + 1) ≤ _
    omega
  clear hn0 hll hq hM
  rw [← HTX.out] at HRE HB1 HB2
  generalize tx (listL (r.names.map quotL)) = X5 at *
  have a1 := sadd ⟨#[124, 32]⟩ X5 (by show 2 + X5.size ≤ _; omega)
  have a2 := sadd (⟨#[124, 32]⟩ ++ X5) ⟨#[10]⟩ (by rw [sz7]; show 2 + X5.size + 1 ≤ _; omega)
  clear HTX HT1 hzn
  go_wp2_with fail
  refine (HNT.out _ HP8.out).mono ?_
  rintro e w9 ⟨rfl, hb9⟩
  have HP9 : Hid (PrS w w9 B b #[.int .i64 r.cmd, .int .i64 r.kind, .int .i64 r.who, .int .i64 r.code, .int .i64 r.rcode, .slice na r.names.length nc, .slice ra r.rows.length rc, .int .i64 r.count, .int .u64 r.stamp, .int .i64 r.fin, .slice ma r.nums.length mc] M) := HP8.out.call hB hb9
  clear hb9 k0 k1 k2 k3 k4 k5 k6 k7 k8 k9 k10 HP8 HNT
  go_wp2_with fail
  generalize (⟨#[124, 32]⟩ ++ X5) ++ ⟨#[10]⟩ = T5 at *
  have HWR : Hid (∀ _ : Unit, _) := fun _ => writeT B b M T5 w9 HP9.out.bl HMT.out (HP9.out.le hB)
  refine (HWR.out ()).mono ?_
  rintro e w10 ⟨rfl, hb8, hb9, hb10⟩
  have HP10 : Hid (PrS w w10 B b #[.int .i64 r.cmd, .int .i64 r.kind, .int .i64 r.who, .int .i64 r.code, .int .i64 r.rcode, .slice na r.names.length nc, .slice ra r.rows.length rc, .int .i64 r.count, .int .u64 r.stamp, .int .i64 r.fin, .slice ma r.nums.length mc] (M ++ T5.data.toList)) := HP9.out.wrote hbw.2 hb8 hb9 hb10
  clear hb8 hb9 hb10 HWR a1 a2 HP9 HMT
  have HRE2 : Hid (l ++ repL r = M ++ T5.data.toList ++ r.rows.flatMap rowL) := by
    show l ++ repL r = M ++ T5.data.toList ++ r.rows.flatMap rowL
    rw [HRE.out, List.append_assoc]
  clear HRE HB1
  generalize M ++ T5.data.toList = N at *
  obtain ⟨k0, k1, k2, k3, k4, k5, k6, k7, k8, k9, k10⟩ := HS.out _ _ HP10.out
  have hRl := HR.out.rowsN
  go_wp2_with fail
  go_loopw [7, 63] (fun _ x wr => ∃ k : Nat, k ≤ r.rows.length ∧ x = .int .i64 (k : Int) ∧ PrS w wr B b #[.int .i64 r.cmd, .int .i64 r.kind, .int .i64 r.who, .int .i64 r.code, .int .i64 r.rcode, .slice na r.names.length nc, .slice ra r.rows.length rc, .int .i64 r.count, .int .u64 r.stamp, .int .i64 r.fin, .slice ma r.nums.length mc] (N ++ (r.rows.take k).flatMap rowL)) (fun _ x _ => r.rows.length - (intOf x).toNat)
  case atStart => exact ⟨0, by omega, rfl, by simpa using HP10.out⟩
  case round =>
    obtain ⟨k, hk, rfl, hp⟩ := hrel
    have HPr : Hid (PrS w wr B b #[.int .i64 r.cmd, .int .i64 r.kind, .int .i64 r.who, .int .i64 r.code, .int .i64 r.rcode, .slice na r.names.length nc, .slice ra r.rows.length rc, .int .i64 r.count, .int .u64 r.stamp, .int .i64 r.fin, .slice ma r.nums.length mc] (N ++ (r.rows.take k).flatMap rowL)) := hp
    clear hp k0 k1 k2 k3 k4 k5 k6 k7 k8 k9 k10 HP10
    by_cases hkl : k < r.rows.length
    · have hki : (k : Int) < (r.rows.length : Int) := by omega
      have hnx : N ++ (r.rows.take k).flatMap rowL ++ rowL r.rows[k] = N ++ (r.rows.take (k + 1)).flatMap rowL := by
        rw [flat_take _ _ _ hkl, List.append_assoc]
      have hbk := HB2.out (k + 1)
      rw [← hnx] at hbk
      have HNX : Hid (N ++ (r.rows.take k).flatMap rowL ++ rowL r.rows[k] = N ++ (r.rows.take (k + 1)).flatMap rowL) := hnx
      obtain ⟨bb, off, x, rfl, x0, hx⟩ := (HW.out.later (HPr.out.bel)).cell k hkl
      obtain ⟨xa, xc, rfl⟩ := hx.form
      have HRK : Hid (rowL r.rows[k] = [32, 32] ++ listL (r.rows[k].map valL) ++ [10]) := rfl
      rw [HRK.out] at hbk
      have hq : (listL (r.rows[k].map valL)).length ≤ 70368744177664 := by
        simp only [List.length_append] at hbk
        omega
      have HVT : Hid (∀ _ : Unit, _) := fun _ => valuesT (.slice xa r.rows[k].length xc) r.rows[k] B wr (HPr.out.le hB) hx (HR.out.rows k hkl).1 (HR.out.rows k hkl).2 hq (HPr.out.gw HG.out hB2)
      have hzn : (tx (listL (r.rows[k].map valL))).size ≤ 70368744177664 := by rw [tx_size]; exact hq
      have HTX : Hid (((⟨#[32, 32]⟩ ++ tx (listL (r.rows[k].map valL))) ++ ⟨#[10]⟩).data.toList = rowL r.rows[k]) := by
        show ((tx [32, 32] ++ tx (listL (r.rows[k].map valL))) ++ tx [10]).data.toList = _
        rw [tx_app, tx_app, tx_list]
        rfl
      have HMT : Hid ((N ++ (r.rows.take k).flatMap rowL).length + ((⟨#[32, 32]⟩ ++ tx (listL (r.rows[k].map valL))) ++ ⟨#[10]⟩).size ≤ 140737488355328) := by
        show (N ++ (r.rows.take k).flatMap rowL).length + ((⟨#[32, 32]⟩ ++ tx (listL (r.rows[k].map valL))) ++ ⟨#[10]⟩).size ≤ 140737488355328
        rw [sz7, sz7, tx_size]
        show _ + (2 + (listL (r.rows[k].map valL)).length + 1) ≤ _
        simp only [List.length_append, List.length_cons, List.length_nil] at hbk ⊢
        omega
      rw [← HTX.out] at HNX
      clear hbk hq hx hnx HRK HTX
      generalize tx (listL (r.rows[k].map valL)) = X6 at *
      generalize N ++ (r.rows.take k).flatMap rowL = L6 at *
      generalize r.rows[k].length = rkl at *
      have a1 := sadd ⟨#[32, 32]⟩ X6 (by show 2 + X6.size ≤ _; omega)
      have a2 := sadd (⟨#[32, 32]⟩ ++ X6) ⟨#[10]⟩ (by rw [sz7]; show 2 + X6.size + 1 ≤ _; omega)
      go_wp2_with fail
      refine (HVT.out ()).mono ?_
      rintro e w11 ⟨rfl, hb11⟩
      have HP11 : Hid (PrS w w11 B b #[.int .i64 r.cmd, .int .i64 r.kind, .int .i64 r.who, .int .i64 r.code, .int .i64 r.rcode, .slice na r.names.length nc, .slice (some ⟨bb, off, none⟩) r.rows.length rc, .int .i64 r.count, .int .u64 r.stamp, .int .i64 r.fin, .slice ma r.nums.length mc] L6) := HPr.out.call hB hb11
      clear hb11 HVT
      go_wp2_with fail
      generalize (⟨#[32, 32]⟩ ++ X6) ++ ⟨#[10]⟩ = T6 at *
      have HWR : Hid (∀ _ : Unit, _) := fun _ => writeT B b L6 T6 w11 HP11.out.bl HMT.out (HP11.out.le hB)
      refine (HWR.out ()).mono ?_
      rintro e w12 ⟨rfl, hb8, hb9, hb10⟩
      have HP12 : Hid (PrS w w12 B b #[.int .i64 r.cmd, .int .i64 r.kind, .int .i64 r.who, .int .i64 r.code, .int .i64 r.rcode, .slice na r.names.length nc, .slice (some ⟨bb, off, none⟩) r.rows.length rc, .int .i64 r.count, .int .u64 r.stamp, .int .i64 r.fin, .slice ma r.nums.length mc] (L6 ++ T6.data.toList)) := HP11.out.wrote hbw.2 hb8 hb9 hb10
      rw [HNX.out] at HP12
      clear hb8 hb9 hb10 HWR a1 a2
      go_wp2
      go_roundw
      case rel => exact ⟨k + 1, by omega, by go_num, HP12.out⟩
      case measure => simp [intOf]; omega
    · have hki : ¬ (k : Int) < (r.rows.length : Int) := by omega
      have hke : k = r.rows.length := by omega
      have HPk : Hid (PrS w wr B b #[.int .i64 r.cmd, .int .i64 r.kind, .int .i64 r.who, .int .i64 r.code, .int .i64 r.rcode, .slice na r.names.length nc, .slice ra r.rows.length rc, .int .i64 r.count, .int .u64 r.stamp, .int .i64 r.fin, .slice ma r.nums.length mc] (N ++ r.rows.flatMap rowL)) := by
        have := HPr.out
        rw [hke, List.take_length] at this
        exact this
      clear HPr hke
      go_wp2
      exact ⟨rfl, _, results_none rfl _ _ _, rfl, by rw [HRE2.out]; exact HPk.out.bl, HPk.out.bel⟩
end Go.Proofs.YtoomekcglniohaaDoor
