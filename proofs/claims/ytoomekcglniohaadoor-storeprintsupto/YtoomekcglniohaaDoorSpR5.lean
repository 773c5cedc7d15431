import Derived.Test.YtoomekcglniohaaDoorSpR4
namespace Go.Proofs.YtoomekcglniohaaDoor
set_option linter.unusedSimpArgs false
open Go.ChangeShapes Go.WideShapes Go.ChangeAt Go.RowKit
set_option linter.unusedVariables false
set_option linter.unusedSimpArgs false
set_option maxRecDepth 100000
/-- What the document's Print sees while it goes: its own copy of a reply. -/
structure RqS (w W : World) (c : Array Value) : Prop where
  bel : Below w.heap.size w W
  bx : W.heap[w.heap.size]? = some (.cells c 36)
theorem RqS.call {w W W' : World} {c : Array Value} (h : RqS w W c) (hb : Below W.heap.size W W') : RqS w W' c :=
  ⟨h.bel.trans (hb.mono h.bel.size), (hb.block _ (Array.getElem?_eq_some_iff.1 h.bx).1).trans h.bx⟩
theorem RqS.drew {w W : World} {c : Array Value} (h : RqS w W c) : RqS w W.drew c := ⟨h.bel.drew, h.bx⟩
theorem RqS.cell {w W : World} {c : Array Value} (h : RqS w W c) (i : Nat) : W.cell? ⟨w.heap.size, i, none⟩ = c[i]? := by
  unfold World.cell?
  rw [h.bx]
  rfl
set_option maxHeartbeats 8000000 in
theorem PrintR (v : Value) (rs : List RP) (B0 : Nat) (w : World) (hB0 : B0 ≤ w.heap.size) (hv : SeesP w B0 v rs) (hn : rs.length ≤ 1048576) (hr : ∀ i (h : i < rs.length), ROK rs[i]) (hlen : (printL rs).length ≤ 70368744177664) :
    Calls Tryd.prog 6 #[v] w fun e w' => e = .returned (.string (tx (printL rs))) ∧ Below w.heap.size w w' := by
  obtain ⟨a, cap, rfl⟩ := hv.form
  have HV : Hid (SeesP w w.heap.size (.slice a rs.length cap) rs) := hv.up hB0
  have HR : Hid (∀ i (h : i < rs.length), ROK rs[i]) := hr
  have HL : Hid ((printL rs).length ≤ 70368744177664) := hlen
  clear hv hr hlen
  go_enter Tryd.func6, Tryd.ntmps6
  go_wp2
  go_loopw [3, 4, 5, 6] (fun t x _ _ wr => ∃ k : Nat, k ≤ rs.length ∧ x = .int .i64 (k : Int) ∧ t = .string (tx (printL (rs.take k))) ∧ Below w.heap.size w wr) (fun _ x _ _ _ => rs.length - (intOf x).toNat)
  case atStart => exact ⟨0, by omega, rfl, rfl, Below.refl _ _⟩
  case round =>
    obtain ⟨k, hk, rfl, rfl, hb⟩ := hrel
    have HBw : Hid (Below w.heap.size w wr) := hb
    clear hb
    by_cases hkl : k < rs.length
    · have hki : (k : Int) < (rs.length : Int) := by omega
      have HNX : Hid (printL (rs.take (k + 1)) = printL (rs.take k) ++ repL rs[k]) := by
        show printL (rs.take (k + 1)) = printL (rs.take k) ++ repL rs[k]
        unfold printL
        rw [flat_take _ _ _ hkl]
      have hlk : (printL (rs.take k)).length + (repL rs[k]).length ≤ 70368744177664 := by
        have h1 := flat_take_le repL rs (k + 1)
        have h2 : printL (rs.take (k + 1)) = (rs.take (k + 1)).flatMap repL := rfl
        rw [← h2, HNX.out, List.length_append] at h1
        exact Nat.le_trans h1 HL.out
      obtain ⟨bb, off, rfl, hbb, hrp⟩ := (HV.out.later HBw.out).cell k hkl
      obtain ⟨na, nc, ra, rc, ma, mc, hri⟩ := hrp
      have hrk := HR.out k hkl
      have hsz := HBw.out.size
      obtain ⟨r, her⟩ : ∃ r, rs[k] = r := ⟨_, rfl⟩
      rw [her] at hri hrk hlk HNX
      have HK : Hid (ROK r) := hrk
      have HLK : Hid ((printL (rs.take k)).length + (repL r).length ≤ 70368744177664) := hlk
      have HP : Hid (RqS wr (wr.alloc (.cells #[.int .i64 r.cmd, .int .i64 r.kind, .int .i64 r.who, .int .i64 r.code, .int .i64 r.rcode, .slice na r.names.length nc, .slice ra r.rows.length rc, .int .i64 r.count, .int .u64 r.stamp, .int .i64 r.fin, .slice ma r.nums.length mc] 36)) #[.int .i64 r.cmd, .int .i64 r.kind, .int .i64 r.who, .int .i64 r.code, .int .i64 r.rcode, .slice na r.names.length nc, .slice ra r.rows.length rc, .int .i64 r.count, .int .u64 r.stamp, .int .i64 r.fin, .slice ma r.nums.length mc]) := ⟨(Below.refl _ _).alloc (Nat.le_refl _) _, heap_new _ _⟩
      have HS : Hid (∀ W, RqS wr W #[.int .i64 r.cmd, .int .i64 r.kind, .int .i64 r.who, .int .i64 r.code, .int .i64 r.rcode, .slice na r.names.length nc, .slice ra r.rows.length rc, .int .i64 r.count, .int .u64 r.stamp, .int .i64 r.fin, .slice ma r.nums.length mc] → (W.cell? ⟨wr.heap.size, 0, none⟩ = some (.int .i64 r.cmd) ∧ W.cell? ⟨wr.heap.size, 1, none⟩ = some (.int .i64 r.kind) ∧ W.cell? ⟨wr.heap.size, 2, none⟩ = some (.int .i64 r.who) ∧ W.cell? ⟨wr.heap.size, 3, none⟩ = some (.int .i64 r.code) ∧ W.cell? ⟨wr.heap.size, 4, none⟩ = some (.int .i64 r.rcode) ∧ W.cell? ⟨wr.heap.size, 5, none⟩ = some (.slice na r.names.length nc) ∧ W.cell? ⟨wr.heap.size, 6, none⟩ = some (.slice ra r.rows.length rc) ∧ W.cell? ⟨wr.heap.size, 7, none⟩ = some (.int .i64 r.count) ∧ W.cell? ⟨wr.heap.size, 8, none⟩ = some (.int .u64 r.stamp) ∧ W.cell? ⟨wr.heap.size, 9, none⟩ = some (.int .i64 r.fin) ∧ W.cell? ⟨wr.heap.size, 10, none⟩ = some (.slice ma r.nums.length mc))) := by
        show ∀ W, RqS wr W #[.int .i64 r.cmd, .int .i64 r.kind, .int .i64 r.who, .int .i64 r.code, .int .i64 r.rcode, .slice na r.names.length nc, .slice ra r.rows.length rc, .int .i64 r.count, .int .u64 r.stamp, .int .i64 r.fin, .slice ma r.nums.length mc] → (W.cell? ⟨wr.heap.size, 0, none⟩ = some (.int .i64 r.cmd) ∧ W.cell? ⟨wr.heap.size, 1, none⟩ = some (.int .i64 r.kind) ∧ W.cell? ⟨wr.heap.size, 2, none⟩ = some (.int .i64 r.who) ∧ W.cell? ⟨wr.heap.size, 3, none⟩ = some (.int .i64 r.code) ∧ W.cell? ⟨wr.heap.size, 4, none⟩ = some (.int .i64 r.rcode) ∧ W.cell? ⟨wr.heap.size, 5, none⟩ = some (.slice na r.names.length nc) ∧ W.cell? ⟨wr.heap.size, 6, none⟩ = some (.slice ra r.rows.length rc) ∧ W.cell? ⟨wr.heap.size, 7, none⟩ = some (.int .i64 r.count) ∧ W.cell? ⟨wr.heap.size, 8, none⟩ = some (.int .u64 r.stamp) ∧ W.cell? ⟨wr.heap.size, 9, none⟩ = some (.int .i64 r.fin) ∧ W.cell? ⟨wr.heap.size, 10, none⟩ = some (.slice ma r.nums.length mc))
        intro W h
        rw [h.cell, h.cell, h.cell, h.cell, h.cell, h.cell, h.cell, h.cell, h.cell, h.cell, h.cell]
        exact ⟨rfl, rfl, rfl, rfl, rfl, rfl, rfl, rfl, rfl, rfl, rfl⟩
      have HNm : Hid (SeesG Value.string wr w.heap.size (.slice na r.names.length nc) r.names) := hri.names
      have HRw : Hid (SeesRs wr w.heap.size (.slice ra r.rows.length rc) r.rows) := hri.rows
      have HNu : Hid (SeesG (Value.int .i64) wr w.heap.size (.slice ma r.nums.length mc) r.nums) := hri.nums
      obtain ⟨c0, c1, c2, c3, c4, c5, c6, c7, c8, c9, c10, _, _, _⟩ := hri
      have HI : Hid (∀ W : World, _) := fun W => digR r.cmd HK.out.cmd.1 HK.out.cmd.2 W
      have HH : Hid (∀ W : World, _) := fun W => headR r.kind r.who HK.out.who.1 HK.out.who.2 W
      have HC : Hid (∀ W : World, _) := fun W => codeR r.code HK.out.code.1 HK.out.code.2 W
      have z1 : (tx (Lib.itoa r.cmd)).size ≤ 22 := by rw [tx_size]; exact itoa_len _ HK.out.cmd.1 (by have := HK.out.cmd.2; omega)
      have z2 : (tx (headL r.kind r.who)).size ≤ 23 := by rw [tx_size]; exact head_len _ _ HK.out.who
      have z3 : (tx (codeL r.code)).size ≤ 23 := by rw [tx_size]; exact code_len _ HK.out.code
      have z0 : (tx (printL (rs.take k))).size ≤ 70368744177664 := by rw [tx_size]; omega
      have HT : Hid (((((tx (printL (rs.take k)) ++ tx (Lib.itoa r.cmd)) ++ ⟨#[32]⟩) ++ tx (headL r.kind r.who)) ++ ⟨#[32]⟩) ++ tx (codeL r.code) = tx (printL (rs.take k) ++ begL r)) := by
        show ((((tx (printL (rs.take k)) ++ tx (Lib.itoa r.cmd)) ++ tx [32]) ++ tx (headL r.kind r.who)) ++ tx [32]) ++ tx (codeL r.code) = tx (printL (rs.take k) ++ begL r)
        rw [tx_app, tx_app, tx_app, tx_app, tx_app]
        unfold begL
        simp only [List.append_assoc]
      obtain ⟨L, hL⟩ : ∃ L, printL (rs.take k) = L := ⟨_, rfl⟩
      rw [hL] at HT z0 HLK HNX ⊢
      clear hlk hrk her hL
      generalize tx (Lib.itoa r.cmd) = X1 at *
      generalize tx (headL r.kind r.who) = X2 at *
      generalize tx (codeL r.code) = X3 at *
      generalize tx L = T at *
      have l32 : ByteArray.size ⟨#[32]⟩ = 1 := rfl
      have a0 := sadd T X1 (by omega)
      have a1 := sadd (T ++ X1) ⟨#[32]⟩ (by simp only [sz7, l32]; omega)
      have a2 := sadd ((T ++ X1) ++ ⟨#[32]⟩) X2 (by simp only [sz7, l32]; omega)
      have a3 := sadd (((T ++ X1) ++ ⟨#[32]⟩) ++ X2) ⟨#[32]⟩ (by simp only [sz7, l32]; omega)
      have a4 := sadd ((((T ++ X1) ++ ⟨#[32]⟩) ++ X2) ++ ⟨#[32]⟩) X3 (by simp only [sz7, l32]; omega)
      clear l32
      go_wp2_with fail
      generalize wr.alloc (.cells #[.int .i64 r.cmd, .int .i64 r.kind, .int .i64 r.who, .int .i64 r.code, .int .i64 r.rcode, .slice na r.names.length nc, .slice ra r.rows.length rc, .int .i64 r.count, .int .u64 r.stamp, .int .i64 r.fin, .slice ma r.nums.length mc] 36) = W1 at *
      (refine wp_region_held_drew (S := (fun w' => w'.cell? ⟨wr.heap.size, 0, none⟩ = some (.int .i64 r.cmd) ∧ w'.cell? ⟨wr.heap.size, 1, none⟩ = some (.int .i64 r.kind) ∧ w'.cell? ⟨wr.heap.size, 2, none⟩ = some (.int .i64 r.who) ∧ w'.cell? ⟨wr.heap.size, 3, none⟩ = some (.int .i64 r.code) ∧ w'.cell? ⟨wr.heap.size, 4, none⟩ = some (.int .i64 r.rcode) ∧ w'.cell? ⟨wr.heap.size, 5, none⟩ = some (.slice na r.names.length nc) ∧ w'.cell? ⟨wr.heap.size, 6, none⟩ = some (.slice ra r.rows.length rc) ∧ w'.cell? ⟨wr.heap.size, 7, none⟩ = some (.int .i64 r.count) ∧ w'.cell? ⟨wr.heap.size, 8, none⟩ = some (.int .u64 r.stamp) ∧ w'.cell? ⟨wr.heap.size, 9, none⟩ = some (.int .i64 r.fin) ∧ w'.cell? ⟨wr.heap.size, 10, none⟩ = some (.slice ma r.nums.length mc))) (by kernel_rfl) (HS.out _ HP.out.drew) (fun hHeld => ?_); simp only [List.size_toArray, List.length_cons, List.length_nil, Nat.reduceAdd, Array.replicate_succ, Array.replicate_zero, List.push_toArray, List.append_toArray, List.nil_append, List.cons_append])
      have HP1 : Hid (RqS wr W1.drew #[.int .i64 r.cmd, .int .i64 r.kind, .int .i64 r.who, .int .i64 r.code, .int .i64 r.rcode, .slice na r.names.length nc, .slice ra r.rows.length rc, .int .i64 r.count, .int .u64 r.stamp, .int .i64 r.fin, .slice ma r.nums.length mc]) := HP.out.drew
      generalize W1.drew = W2 at *
      (refine tk0 (v := ?_) (by kernel_rfl) (by kernel_rfl) (by kernel_rfl) (fun _ _ _ h => h) (Or.inl ⟨by rfl, ?_⟩) (by assumption) ?_; rotate_left; (focus (intro w hSw; (try dsimp only at hSw); go_simp; (try first | (rw [dif_pos (by omega)]; simp only [Result.andThen_ok]) | rw [if_pos (by omega)]); (try with_reducible rfl); done)); try simp only [Act.put, List.setIfInBounds_toArray, List.set_cons_zero, List.set_cons_succ])
      (refine tk1 (v := ?_) (by kernel_rfl) (by kernel_rfl) (by kernel_rfl) (fun _ _ _ h => h) (Or.inl ⟨by rfl, ?_⟩) (by assumption) ?_; rotate_left; (focus (intro w hSw; (try dsimp only at hSw); go_simp; (try first | (rw [dif_pos (by omega)]; simp only [Result.andThen_ok]) | rw [if_pos (by omega)]); (try with_reducible rfl); done)); try simp only [Act.put, List.setIfInBounds_toArray, List.set_cons_zero, List.set_cons_succ])
      (refine tk2 (v := ?_) (by kernel_rfl) (by kernel_rfl) (by kernel_rfl) (fun _ _ _ h => h) (Or.inl ⟨by rfl, ?_⟩) (by assumption) ?_; rotate_left; (focus (intro w hSw; (try dsimp only at hSw); go_simp; (try first | (rw [dif_pos (by omega)]; simp only [Result.andThen_ok]) | rw [if_pos (by omega)]); (try with_reducible rfl); done)); try simp only [Act.put, List.setIfInBounds_toArray, List.set_cons_zero, List.set_cons_succ])
      (refine tk6 (v := ?_) (by kernel_rfl) (by kernel_rfl) (by kernel_rfl) (fun _ _ _ h => h) (Or.inl ⟨by rfl, ?_⟩) (by assumption) ?_; rotate_left; (focus (intro w hSw; (try dsimp only at hSw); go_simp; (try first | (rw [dif_pos (by omega)]; simp only [Result.andThen_ok]) | rw [if_pos (by omega)]); (try with_reducible rfl); done)); try simp only [Act.put, List.setIfInBounds_toArray, List.set_cons_zero, List.set_cons_succ])
      (refine tk7 (v := ?_) (by kernel_rfl) (by kernel_rfl) (by kernel_rfl) (fun _ _ _ h => h) (Or.inl ⟨by rfl, ?_⟩) (by assumption) ?_; rotate_left; (focus (intro w hSw; (try dsimp only at hSw); go_simp; (try first | (rw [dif_pos (by omega)]; simp only [Result.andThen_ok]) | rw [if_pos (by omega)]); (try with_reducible rfl); done)); try simp only [Act.put, List.setIfInBounds_toArray, List.set_cons_zero, List.set_cons_succ])
      (refine tk8 (v := ?_) (by kernel_rfl) (by kernel_rfl) (by kernel_rfl) (fun _ _ _ h => h) (Or.inl ⟨by rfl, ?_⟩) (by assumption) ?_; rotate_left; (focus (intro w hSw; (try dsimp only at hSw); go_simp; (try first | (rw [dif_pos (by omega)]; simp only [Result.andThen_ok]) | rw [if_pos (by omega)]); (try with_reducible rfl); done)); try simp only [Act.put, List.setIfInBounds_toArray, List.set_cons_zero, List.set_cons_succ])
      (refine tk9 (v := ?_) (by kernel_rfl) (by kernel_rfl) (by kernel_rfl) (fun _ _ _ h => h) (Or.inl ⟨by rfl, ?_⟩) (by assumption) ?_; rotate_left; (focus (intro w hSw; (try dsimp only at hSw); go_simp; (try first | (rw [dif_pos (by omega)]; simp only [Result.andThen_ok]) | rw [if_pos (by omega)]); (try with_reducible rfl); done)); try simp only [Act.put, List.setIfInBounds_toArray, List.set_cons_zero, List.set_cons_succ])
      (refine tk13 (v := ?_) (by kernel_rfl) (by kernel_rfl) (by kernel_rfl) (fun _ _ _ h => h) (Or.inl ⟨by rfl, ?_⟩) (by assumption) ?_; rotate_left; (focus (intro w hSw; (try dsimp only at hSw); go_simp; (try first | (rw [dif_pos (by omega)]; simp only [Result.andThen_ok]) | rw [if_pos (by omega)]); (try with_reducible rfl); done)); try simp only [Act.put, List.setIfInBounds_toArray, List.set_cons_zero, List.set_cons_succ])
      (refine tk14 (v := ?_) (by kernel_rfl) (by kernel_rfl) (by kernel_rfl) (fun _ _ _ h => h) (Or.inl ⟨by rfl, ?_⟩) (by assumption) ?_; rotate_left; (focus (intro w hSw; (try dsimp only at hSw); go_simp; (try first | (rw [dif_pos (by omega)]; simp only [Result.andThen_ok]) | rw [if_pos (by omega)]); (try with_reducible rfl); done)); try simp only [Act.put, List.setIfInBounds_toArray, List.set_cons_zero, List.set_cons_succ])
      (refine wpAnyH_ready (rs := [3]) (by kernel_rfl) (by simp) ?_; refine ar3 (fun K hK => ?_) AllReadyH.nil; go_simp)
      refine (HI.out _).mono ?_
      rintro e w3 ⟨rfl, hb3⟩
      have HP3 : Hid (RqS wr w3 #[.int .i64 r.cmd, .int .i64 r.kind, .int .i64 r.who, .int .i64 r.code, .int .i64 r.rcode, .slice na r.names.length nc, .slice ra r.rows.length rc, .int .i64 r.count, .int .u64 r.stamp, .int .i64 r.fin, .slice ma r.nums.length mc]) := HP1.out.call hb3
      clear hb3
      (refine hK.out _ _ (HS.out _ HP3.out) (fun hHeld => ?_); clear hK K; try simp only [Act.put, List.setIfInBounds_toArray, List.set_cons_zero, List.set_cons_succ])
      (refine tk4 (v := ?_) (by kernel_rfl) (by kernel_rfl) (by kernel_rfl) (fun _ _ _ h => h) (Or.inl ⟨by rfl, ?_⟩) (by assumption) ?_; rotate_left; (focus (intro w hSw; (try dsimp only at hSw); go_simp; (try first | (rw [dif_pos (by omega)]; simp only [Result.andThen_ok]) | rw [if_pos (by omega)]); (try with_reducible rfl); done)); try simp only [Act.put, List.setIfInBounds_toArray, List.set_cons_zero, List.set_cons_succ])
      (refine tk5 (v := ?_) (by kernel_rfl) (by kernel_rfl) (by kernel_rfl) (fun _ _ _ h => h) (Or.inl ⟨by rfl, ?_⟩) (by assumption) ?_; rotate_left; (focus (intro w hSw; (try dsimp only at hSw); go_simp; (try first | (rw [dif_pos (by omega)]; simp only [Result.andThen_ok]) | rw [if_pos (by omega)]); (try with_reducible rfl); done)); try simp only [Act.put, List.setIfInBounds_toArray, List.set_cons_zero, List.set_cons_succ])
      (refine wpAnyH_ready (rs := [10]) (by kernel_rfl) (by simp) ?_; refine ar10 (fun K hK => ?_) AllReadyH.nil; go_simp)
      refine (HH.out _).mono ?_
      rintro e w4 ⟨rfl, hb4⟩
      have HP4 : Hid (RqS wr w4 #[.int .i64 r.cmd, .int .i64 r.kind, .int .i64 r.who, .int .i64 r.code, .int .i64 r.rcode, .slice na r.names.length nc, .slice ra r.rows.length rc, .int .i64 r.count, .int .u64 r.stamp, .int .i64 r.fin, .slice ma r.nums.length mc]) := HP3.out.call hb4
      clear hb4
      (refine hK.out _ _ (HS.out _ HP4.out) (fun hHeld => ?_); clear hK K; try simp only [Act.put, List.setIfInBounds_toArray, List.set_cons_zero, List.set_cons_succ])
      (refine tk11 (v := ?_) (by kernel_rfl) (by kernel_rfl) (by kernel_rfl) (fun _ _ _ h => h) (Or.inl ⟨by rfl, ?_⟩) (by assumption) ?_; rotate_left; (focus (intro w hSw; (try dsimp only at hSw); go_simp; (try first | (rw [dif_pos (by omega)]; simp only [Result.andThen_ok]) | rw [if_pos (by omega)]); (try with_reducible rfl); done)); try simp only [Act.put, List.setIfInBounds_toArray, List.set_cons_zero, List.set_cons_succ])
      (refine tk12 (v := ?_) (by kernel_rfl) (by kernel_rfl) (by kernel_rfl) (fun _ _ _ h => h) (Or.inl ⟨by rfl, ?_⟩) (by assumption) ?_; rotate_left; (focus (intro w hSw; (try dsimp only at hSw); go_simp; (try first | (rw [dif_pos (by omega)]; simp only [Result.andThen_ok]) | rw [if_pos (by omega)]); (try with_reducible rfl); done)); try simp only [Act.put, List.setIfInBounds_toArray, List.set_cons_zero, List.set_cons_succ])
      (refine wpAnyH_ready (rs := [15]) (by kernel_rfl) (by simp) ?_; refine ar15 (fun K hK => ?_) AllReadyH.nil; go_simp)
      refine (HC.out _).mono ?_
      rintro e w5 ⟨rfl, hb5⟩
      have HP5 : Hid (RqS wr w5 #[.int .i64 r.cmd, .int .i64 r.kind, .int .i64 r.who, .int .i64 r.code, .int .i64 r.rcode, .slice na r.names.length nc, .slice ra r.rows.length rc, .int .i64 r.count, .int .u64 r.stamp, .int .i64 r.fin, .slice ma r.nums.length mc]) := HP4.out.call hb5
      clear hb5
      (refine hK.out _ _ (HS.out _ HP5.out) (fun hHeld => ?_); clear hK K; try simp only [Act.put, List.setIfInBounds_toArray, List.set_cons_zero, List.set_cons_succ])
      (refine tk16 (v := ?_) (by kernel_rfl) (by kernel_rfl) (by kernel_rfl) (fun _ _ _ h => h) (Or.inl ⟨by rfl, ?_⟩) (by assumption) ?_; rotate_left; (focus (intro w hSw; (try dsimp only at hSw); go_simp; (try first | (rw [dif_pos (by omega)]; simp only [Result.andThen_ok]) | rw [if_pos (by omega)]); (try with_reducible rfl); done)); try simp only [Act.put, List.setIfInBounds_toArray, List.set_cons_zero, List.set_cons_succ])
      (refine tk17 (v := ?_) (by kernel_rfl) (by kernel_rfl) (by kernel_rfl) (fun _ _ _ h => h) (Or.inl ⟨by rfl, ?_⟩) (by assumption) ?_; rotate_left; (focus (intro w hSw; (try dsimp only at hSw); go_simp; (try first | (rw [dif_pos (by omega)]; simp only [Result.andThen_ok]) | rw [if_pos (by omega)]); (try with_reducible rfl); done)); try simp only [Act.put, List.setIfInBounds_toArray, List.set_cons_zero, List.set_cons_succ])
      refine wpAnyH_done (by kernel_rfl) ?_ _
      clear HP HP1 HP3 HP4 HI HH HC a0 a1 a2 a3 a4 c0 c1 c2 c3 c4 c5 c6 c7 c8 c9 c10 z1 z2 z3
      obtain ⟨k0, k1, k2, k3, k4, k5, k6, k7, k8, k9, k10⟩ := HS.out _ HP5.out
      rw [HT.out]
      clear HT
      by_cases hkd : r.kind = 1
      · have hkb : (r.kind != 1) = false := by simp [hkd]
        have HRP : Hid (L ++ repL r = (L ++ begL r) ++ (endL r.count r.stamp r.fin ++ [10] ++ tailL r)) := by
          show L ++ repL r = (L ++ begL r) ++ (endL r.count r.stamp r.fin ++ [10] ++ tailL r)
          unfold repL
          rw [if_pos hkd]
          simp only [List.append_assoc]
        have hbn : ((L ++ begL r) ++ (endL r.count r.stamp r.fin ++ [10] ++ tailL r)).length ≤ 70368744177664 := by rw [← HRP.out, List.length_append]; exact HLK.out
        have HQ : Hid (∀ _ : Unit, _) := fun _ => resR r na nc ra rc ma mc w.heap.size w5 (Nat.le_trans hsz HP5.out.bel.size) HK.out (HNm.out.later (HP5.out.bel.mono hsz)) (HRw.out.later (HP5.out.bel.mono hsz)) (by rw [List.length_append] at hbn; omega)
        have ha := saddc (tx (L ++ begL r)) (tx (endL r.count r.stamp r.fin ++ [10] ++ tailL r)) (tx (printL (rs.take (k + 1)))) (by rw [tx_app, HNX.out, HRP.out]) (by rw [HNX.out, HRP.out, tx_size]; omega)
        unfold repV at HQ
        clear hkd hbn
        generalize tx (L ++ begL r) = T2 at *
        generalize tx (endL r.count r.stamp r.fin ++ [10] ++ tailL r) = T3 at *
        go_wp2_with fail
        refine (HQ.out ()).mono ?_
        rintro e w6 ⟨rfl, hb6⟩
        have HB6 : Hid (Below w.heap.size w w6) := (HBw.out.trans (HP5.out.bel.mono hsz)).trans (hb6.mono (Nat.le_trans hsz HP5.out.bel.size))
        clear hb6
        go_wp2
        go_roundw
        case rel => exact ⟨k + 1, by omega, by go_num, rfl, HB6.out⟩
        case measure => simp [intOf]; omega
      · have hkb : (r.kind != 1) = true := by simp [hkd]
        obtain ⟨P, hP⟩ : ∃ P, L ++ begL r = P := ⟨_, rfl⟩
        have HRP : Hid (L ++ repL r = P ++ r.nums.flatMap (fun n => 32 :: Lib.itoa n) ++ [10]) := by
          show L ++ repL r = P ++ r.nums.flatMap (fun n => 32 :: Lib.itoa n) ++ [10]
          unfold repL
          rw [if_neg hkd, ← hP]
          simp only [List.append_assoc]
        have HBN : Hid (∀ j, (P ++ (r.nums.take j).flatMap (fun n => 32 :: Lib.itoa n)).length + 1 ≤ 70368744177664) := by
          show ∀ j, (P ++ (r.nums.take j).flatMap (fun n => 32 :: Lib.itoa n)).length + 1 ≤ 70368744177664
          intro j
          have h1 := flat_take_le (fun n => 32 :: Lib.itoa n) r.nums j
          have h2 := HLK.out
          have h3 : (L ++ repL r).length ≤ 70368744177664 := by rw [List.length_append]; exact h2
          rw [HRP.out] at h3
          simp only [List.length_append, List.length_cons, List.length_nil] at h3 ⊢
          omega
        rw [hP]
        clear hkd hP
        go_wp2_with fail
        go_loopw [3, 6] (fun t x wx => ∃ j : Nat, j ≤ r.nums.length ∧ x = .int .i64 (j : Int) ∧ t = .string (tx (P ++ (r.nums.take j).flatMap (fun n => 32 :: Lib.itoa n))) ∧ RqS wr wx #[.int .i64 r.cmd, .int .i64 r.kind, .int .i64 r.who, .int .i64 r.code, .int .i64 r.rcode, .slice na r.names.length nc, .slice ra r.rows.length rc, .int .i64 r.count, .int .u64 r.stamp, .int .i64 r.fin, .slice ma r.nums.length mc]) (fun _ x _ => r.nums.length - (intOf x).toNat)
        case atStart => exact ⟨0, by omega, rfl, by simp, HP5.out⟩
        case round =>
          obtain ⟨j, hj, rfl, rfl, hp⟩ := hrel
          clear k0 k1 k2 k3 k4 k5 k6 k7 k8 k9 k10 HP5
          obtain ⟨k0, k1, k2, k3, k4, k5, k6, k7, k8, k9, k10⟩ := HS.out _ hp
          have HPa : Hid (RqS _ wr #[.int .i64 r.cmd, .int .i64 r.kind, .int .i64 r.who, .int .i64 r.code, .int .i64 r.rcode, .slice na r.names.length nc, .slice ra r.rows.length rc, .int .i64 r.count, .int .u64 r.stamp, .int .i64 r.fin, .slice ma r.nums.length mc]) := hp
          clear hp
          by_cases hjl : j < r.nums.length
          · have hkj : (j : Int) < (r.nums.length : Int) := by omega
            have hw : IntKind.i64.wrap ((j : Int) + 1) = (j : Int) + 1 := by rw [IntKind.wrap_i64]; have := HK.out.numsN; omega
            obtain ⟨b2, off2, rfl, y0⟩ := (HNu.out.later (HPa.out.bel.mono hsz)).cell j hjl
            have HQ : Hid (∀ W : World, _) := fun W => digR r.nums[j] (HK.out.nums j hjl).1 (HK.out.nums j hjl).2 W
            have hft := flat_take (fun n => 32 :: Lib.itoa n) r.nums j hjl
            have hb1 := HBN.out (j + 1)
            have ha1 := saddc (tx (P ++ (r.nums.take j).flatMap (fun n => 32 :: Lib.itoa n))) ⟨#[32]⟩ (tx (P ++ (r.nums.take j).flatMap (fun n => 32 :: Lib.itoa n) ++ [32])) (by show _ ++ tx [32] = _; rw [tx_app]) (by rw [tx_size]; have := HBN.out j; rw [List.length_append]; simp only [List.length_cons, List.length_nil]; omega)
            have ha2 := saddc (tx (P ++ (r.nums.take j).flatMap (fun n => 32 :: Lib.itoa n) ++ [32])) (tx (Lib.itoa r.nums[j])) (tx (P ++ (r.nums.take (j + 1)).flatMap (fun n => 32 :: Lib.itoa n))) (by rw [tx_app, hft]; simp only [List.append_assoc, List.singleton_append]) (by rw [tx_size]; omega)
            clear hft hb1
            generalize tx (P ++ (r.nums.take j).flatMap (fun n => 32 :: Lib.itoa n) ++ [32]) = M at *
            generalize tx (P ++ (r.nums.take j).flatMap (fun n => 32 :: Lib.itoa n)) = M0 at *
            go_wp2_with fail
            refine (HQ.out _).mono ?_
            rintro e w6 ⟨rfl, hb6⟩
            have HP6 : Hid (RqS _ w6 _) := HPa.out.call hb6
            clear hb6
            go_wp2
            go_roundw
            case rel => exact ⟨j + 1, by omega, by go_num, rfl, HP6.out⟩
            case measure => simp [intOf]; omega
          · have hkj : ¬ (j : Int) < (r.nums.length : Int) := by omega
            have hje : r.nums.take j = r.nums := List.take_of_length_le (by omega)
            have hbj := HBN.out j
            rw [hje] at hbj ⊢
            have ha2 := saddc (tx (P ++ r.nums.flatMap (fun n => 32 :: Lib.itoa n))) ⟨#[10]⟩ (tx (printL (rs.take (k + 1)))) (by show _ ++ tx [10] = _; rw [tx_app, HNX.out, HRP.out]) (by rw [HNX.out, HRP.out, tx_size, List.length_append]; simp only [List.length_cons, List.length_nil]; omega)
            have HB6 : Hid (Below w.heap.size w _) := HBw.out.trans (HPa.out.bel.mono hsz)
            clear hje hbj
            generalize tx (P ++ r.nums.flatMap (fun n => 32 :: Lib.itoa n)) = M at *
            go_wp2
            go_roundw
            case rel => exact ⟨k + 1, by omega, by go_num, rfl, HB6.out⟩
            case measure => simp [intOf]; omega
    · have hki : ¬ (k : Int) < (rs.length : Int) := by omega
      have hke : rs.take k = rs := List.take_of_length_le (by omega)
      rw [hke]
      clear hke
      go_wp2
      go_ret
      exact ⟨rfl, HBw.out⟩
end Go.Proofs.YtoomekcglniohaaDoor
