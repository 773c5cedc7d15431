import Derived.Test.YtoomekcglniohaaDoorSpR3
import Derived.Deep.DeepCutAuto
namespace Go.Proofs.YtoomekcglniohaaDoor
open Go.ChangeShapes Go.WideShapes Go.ChangeAt Go.RowKit
set_option linter.unusedVariables false
set_option linter.unusedSimpArgs false
set_option maxRecDepth 100000
/-- What the document's result sees while it goes: its own copy of the result. -/
structure RsS (w W : World) (c : Array Value) : Prop where
  bel : Below w.heap.size w W
  bx : W.heap[w.heap.size + 1]? = some (.cells c 34)
theorem RsS.call {w W W' : World} {c : Array Value} (h : RsS w W c) (hb : Below W.heap.size W W') : RsS w W' c :=
  ⟨h.bel.trans (hb.mono h.bel.size), (hb.block _ (Array.getElem?_eq_some_iff.1 h.bx).1).trans h.bx⟩
theorem RsS.cell {w W : World} {c : Array Value} (h : RsS w W c) (i : Nat) : W.cell? ⟨w.heap.size + 1, i, none⟩ = c[i]? := by
  unfold World.cell?
  rw [h.bx]
  rfl
theorem joinL_take (xs : List (List UInt8)) (k : Nat) (h : k < xs.length) : listL (xs.take (k + 1)) = listL (xs.take k) ++ (if k = 0 then [] else [44, 32]) ++ xs[k] := by
  unfold listL
  cases k with
  | zero =>
    cases xs with
    | nil => simp at h
    | cons x r => simp [Lib.join_nil, Lib.join_one]
  | succ k =>
    cases xs with
    | nil => simp at h
    | cons x r =>
      have hk : k < r.length := by simpa using h
      rw [List.take_succ_cons, List.take_succ_cons, Lib.join_cons, Lib.join_cons, if_neg (by omega)]
      unfold Lib.joinTail
      rw [show r.take (k + 1) = r.take k ++ [r[k]] from (List.take_append_getElem hk).symm]
      simp only [List.map_append, List.flatten_append, List.map_cons, List.map_nil, List.flatten_cons, List.flatten_nil, List.append_nil, List.append_assoc, List.getElem_cons_succ]
theorem joinL_len (xs : List (List UInt8)) (k : Nat) : (listL (xs.take k)).length ≤ (listL xs).length := by
  unfold listL
  cases xs with
  | nil => simp
  | cons x r =>
    cases k with
    | zero => simp [Lib.join_nil]
    | succ k =>
      rw [List.take_succ_cons, Lib.join_cons, Lib.join_cons]
      unfold Lib.joinTail
      conv => rhs; rw [← List.take_append_drop k r]
      simp only [List.map_append, List.flatten_append, List.length_append]
      omega
set_option maxHeartbeats 8000000 in
theorem resR (r : RP) (na : Option Addr) (nc : Nat) (ra : Option Addr) (rc : Nat) (ma : Option Addr) (mc : Nat) (B : Nat) (w : World) (hB : B ≤ w.heap.size) (hr : ROK r) (hN : SeesG Value.string w B (.slice na r.names.length nc) r.names) (hR : SeesRs w B (.slice ra r.rows.length rc) r.rows) (hlen : (endL r.count r.stamp r.fin ++ [10] ++ tailL r).length ≤ 70368744177664) :
    Calls Tryd.prog 13 #[repV r.cmd r.kind r.who r.code r.rcode na r.names.length nc ra r.rows.length rc r.count r.stamp r.fin ma r.nums.length mc] w fun e w' => e = .returned (.string (tx (endL r.count r.stamp r.fin ++ [10] ++ tailL r))) ∧ Below w.heap.size w w' := by
  have HN : Hid (SeesG Value.string w B (.slice na r.names.length nc) r.names) := hN
  have HR : Hid (SeesRs w B (.slice ra r.rows.length rc) r.rows) := hR
  have HK : Hid (ROK r) := hr
  have HL : Hid ((endL r.count r.stamp r.fin ++ [10] ++ tailL r).length ≤ 70368744177664) := hlen
  clear hN hR hr hlen
  obtain ⟨n, hn⟩ : ∃ n, n = r.count := ⟨_, rfl⟩
  have HD : Hid (∀ W : World, _) := fun W => digR n (by rw [hn]; exact HK.out.count.1) (by rw [hn]; exact HK.out.count.2) W
  obtain ⟨u, hu⟩ := Int.eq_ofNat_of_zero_le HK.out.stamp.1
  have HU : Hid (∀ W : World, _) := fun W => stN u u (Nat.le_refl _) (by have := HK.out.stamp.2; omega) W
  obtain ⟨f, hf⟩ : ∃ f, f = r.fin := ⟨_, rfl⟩
  have HE : Hid (endL r.count r.stamp r.fin = cntL n ++ stpL (u : Int) ++ finL f) := by rw [hn, hu, hf]; rfl
  have hz1 : (tx (Lib.itoa n)).size ≤ 22 := by rw [tx_size, hn]; exact itoa_len _ HK.out.count.1 (by have := HK.out.count.2; omega)
  have hz2 : (tx (Lib.decDigits u)).size ≤ 20 := dec_size u (by have := HK.out.stamp.2; omega)
  have HC : Hid (tx (cntL n) = if n = 0 then ⟨#[]⟩ else ⟨#[32, 99, 111, 117, 110, 116, 32]⟩ ++ tx (Lib.itoa n)) := by
    unfold cntL
    split
    · rfl
    · show _ = tx [32, 99, 111, 117, 110, 116, 32] ++ _; rw [tx_app]
  have HS : Hid (tx (stpL (u : Int)) = if (u : Int) = 0 then ⟨#[]⟩ else ⟨#[32, 115, 116, 97, 109, 112, 32]⟩ ++ tx (Lib.decDigits u)) := by
    unfold stpL
    split
    · rfl
    · show _ = tx [32, 115, 116, 97, 109, 112, 32] ++ _; rw [tx_app]; rfl
  have hq1 : (tx (cntL n)).size ≤ 40 := by
    rw [HC.out]
    split
    · show 0 ≤ 40; omega
    · rw [sz7]; show 7 + _ ≤ 40; omega
  have hq2 : (tx (stpL (u : Int))).size ≤ 40 := by
    rw [HS.out]
    split
    · show 0 ≤ 40; omega
    · rw [sz7]; show 7 + _ ≤ 40; omega
  obtain ⟨C, hC⟩ : ∃ C : Array Value, C = #[.int .i64 r.rcode, .slice na r.names.length nc, .slice ra r.rows.length rc, .int .i64 n, .int .u64 (u : Int), .int .i64 f] := ⟨_, rfl⟩
  have HP : Hid (RsS w ((w.alloc (.cells #[.int .i64 r.cmd, .int .i64 r.kind, .int .i64 r.who, .int .i64 r.code, .int .i64 r.rcode, .slice na r.names.length nc, .slice ra r.rows.length rc, .int .i64 n, .int .u64 (u : Int), .int .i64 f, .slice ma r.nums.length mc] 36)).alloc (.cells #[.int .i64 r.rcode, .slice na r.names.length nc, .slice ra r.rows.length rc, .int .i64 n, .int .u64 (u : Int), .int .i64 f] 34)) C) := by
    have h1 : Below w.heap.size w (w.alloc (.cells #[.int .i64 r.cmd, .int .i64 r.kind, .int .i64 r.who, .int .i64 r.code, .int .i64 r.rcode, .slice na r.names.length nc, .slice ra r.rows.length rc, .int .i64 n, .int .u64 (u : Int), .int .i64 f, .slice ma r.nums.length mc] 36)) := (Below.refl _ _).alloc (Nat.le_refl _) _
    refine ⟨h1.alloc h1.size _, ?_⟩
    have h2 : w.heap.size + 1 = (w.alloc (.cells #[.int .i64 r.cmd, .int .i64 r.kind, .int .i64 r.who, .int .i64 r.code, .int .i64 r.rcode, .slice na r.names.length nc, .slice ra r.rows.length rc, .int .i64 n, .int .u64 (u : Int), .int .i64 f, .slice ma r.nums.length mc] 36)).heap.size := (Array.size_push _).symm
    rw [h2, hC]
    exact heap_new _ _
  have HS6 : Hid (∀ W, RsS w W C → W.cell? ⟨w.heap.size + 1, 1, none⟩ = some (.slice na r.names.length nc) ∧ W.cell? ⟨w.heap.size + 1, 2, none⟩ = some (.slice ra r.rows.length rc) ∧ W.cell? ⟨w.heap.size + 1, 3, none⟩ = some (.int .i64 n) ∧ W.cell? ⟨w.heap.size + 1, 4, none⟩ = some (.int .u64 (u : Int)) ∧ W.cell? ⟨w.heap.size + 1, 5, none⟩ = some (.int .i64 f)) := by
    show ∀ W, RsS w W C → _
    intro W h
    rw [h.cell, h.cell, h.cell, h.cell, h.cell, hC]
    exact ⟨rfl, rfl, rfl, rfl, rfl⟩
  unfold repV
  rw [hu, ← hn, ← hf]
  rw [hu, ← hn, ← hf] at HL
  clear HE
  have HHN : Hid (n = r.count) := hn
  clear hn hu hf hC
  go_enter Tryd.func13, Tryd.ntmps13
  go_upto_if 12 with fail
  go_cut [4] (fun t wx => t = .string (tx (cntL n)) ∧ RsS w wx C)
  case first =>
    by_cases hn : n = 0
    · have hb : (n != 0) = false := by simp [hn]
      rw [if_pos hn] at HC
      go_wp2_with fail
      go_meet
      case rel => exact ⟨by rw [HC.out], HP.out⟩
    · have hb : (n != 0) = true := by simp [hn]
      rw [if_neg hn] at HC
      have ha1 := sadd ⟨#[]⟩ ⟨#[32, 99, 111, 117, 110, 116, 32]⟩ (by show 0 + 7 ≤ _; omega)
      rw [e_app] at ha1
      have ha2 := sadd ⟨#[32, 99, 111, 117, 110, 116, 32]⟩ (tx (Lib.itoa n)) (by show 7 + _ ≤ _; omega)
      clear hn
      go_wp2_with fail
      refine (HD.out _).mono ?_
      rintro e w1 ⟨rfl, hb1⟩
      have HP1 : Hid (RsS w w1 C) := HP.out.call hb1
      clear hb1
      go_wp2_with fail
      go_meet
      case rel => exact ⟨by rw [HC.out], HP1.out⟩
  case rest =>
    obtain ⟨rfl, hp⟩ := hcut
    obtain ⟨k1, k2, k3, k4, k5⟩ := HS6.out _ hp
    have HPa : Hid (RsS w wc C) := hp
    clear hp HC HP
    generalize hT1 : tx (cntL n) = T1 at *
    have HT1 : Hid (tx (cntL n) = T1) := hT1
    clear hT1
    go_upto_if 21 with fail
    go_cut [4] (fun t wx => t = .string (T1 ++ tx (stpL (u : Int))) ∧ RsS w wx C)
    case first =>
      by_cases hn : (u : Int) = 0
      · have hb : ((u : Int) != 0) = false := by simp [hn]
        rw [if_pos hn] at HS
        clear hn
        go_wp2_with fail
        go_meet
        case rel => exact ⟨by rw [HS.out, app_e], HPa.out⟩
      · have hb : ((u : Int) != 0) = true := by simpa using hn
        rw [if_neg hn] at HS
        have ha1 := sadd T1 ⟨#[32, 115, 116, 97, 109, 112, 32]⟩ (by show _ + 7 ≤ _; omega)
        have ha2 := sadd (T1 ++ ⟨#[32, 115, 116, 97, 109, 112, 32]⟩) (tx (Lib.decDigits u)) (by rw [sz7]; show _ + 7 + _ ≤ _; omega)
        clear hn
        go_wp2_with fail
        refine (HU.out _).mono ?_
        rintro e w1 ⟨rfl, hb1⟩
        have HP1 : Hid (RsS w w1 C) := HPa.out.call hb1
        clear hb1
        go_wp2_with fail
        go_meet
        case rel => exact ⟨by rw [HS.out, ByteArray.append_assoc], HP1.out⟩
    case rest =>
      obtain ⟨rfl, hp⟩ := hcut
      clear k1 k2 k3 k4 k5 HPa
      obtain ⟨k1, k2, k3, k4, k5⟩ := HS6.out _ hp
      have HPa : Hid (RsS w wc C) := hp
      clear hp HS
      have hqT : (T1 ++ tx (stpL (u : Int))).size ≤ 80 := by rw [sz7]; omega
      have HT2 : Hid (tx (endL n (u : Int) f) = (T1 ++ tx (stpL (u : Int))) ++ tx (finL f)) := by
        show tx (endL n (u : Int) f) = (T1 ++ tx (stpL (u : Int))) ++ tx (finL f)
        rw [show endL n (u : Int) f = cntL n ++ stpL (u : Int) ++ finL f from rfl, ← tx_app, ← tx_app, HT1.out]
      generalize T1 ++ tx (stpL (u : Int)) = T2 at *
      go_upto_if 30 with fail
      go_cut [4] (fun t wx => t = .string (if f = 1 then T2 ++ ⟨#[32, 99, 111, 109, 109, 105, 116]⟩ else T2) ∧ RsS w wx C)
      case first =>
        by_cases hn : f = 1
        · have hb : (f == 1) = true := by simp [hn]
          have ha1 := sadd T2 ⟨#[32, 99, 111, 109, 109, 105, 116]⟩ (by show _ + 7 ≤ _; omega)
          have HF : Hid (f = 1) := hn
          clear hn
          go_wp2_with fail
          go_meet
          case rel => exact ⟨by rw [if_pos HF.out], HPa.out⟩
        · have hb : (f == 1) = false := by simp [hn]
          have HF : Hid (f ≠ 1) := hn
          clear hn
          go_wp2_with fail
          go_meet
          case rel => exact ⟨by rw [if_neg HF.out], HPa.out⟩
      case rest =>
        obtain ⟨rfl, hp⟩ := hcut
        clear k1 k2 k3 k4 k5 HPa
        obtain ⟨k1, k2, k3, k4, k5⟩ := HS6.out _ hp
        have HPa : Hid (RsS w wc C) := hp
        clear hp
        go_upto_if 35 with fail
        go_cut [4] (fun t wx => t = .string (T2 ++ tx (finL f)) ∧ RsS w wx C)
        case first =>
          by_cases hn : f = 2
          · subst hn
            rw [if_neg (by omega)]
            have ha1 := sadd T2 ⟨#[32, 97, 98, 111, 114, 116]⟩ (by show _ + 6 ≤ _; omega)
            go_wp2_with fail
            go_meet
            case rel => exact ⟨rfl, HPa.out⟩
          · have hb : (f == 2) = false := by simp [hn]
            have hE : (if f = 1 then T2 ++ ⟨#[32, 99, 111, 109, 109, 105, 116]⟩ else T2) = T2 ++ tx (finL f) := by
              unfold finL
              split
              · rfl
              · exact (app_e _).symm
            rw [hE]
            clear hn
            go_wp2_with fail
            go_meet
            case rel => exact ⟨rfl, HPa.out⟩
        case rest =>
          obtain ⟨rfl, hp⟩ := hcut
          clear k1 k2 k3 k4 k5 HPa
          obtain ⟨k1, k2, k3, k4, k5⟩ := HS6.out _ hp
          have HPa : Hid (RsS w wc C) := hp
          clear hp
          rw [← HT2.out]
          obtain ⟨E, HEE⟩ : ∃ E, Hid (endL n (u : Int) f = E) := ⟨_, rfl⟩
          have HL2 : Hid ((E ++ [10] ++ tailL r).length ≤ 70368744177664) := by have := HL.out; rw [HEE.out] at this; exact this
          have HT3 : Hid (tx (endL n (u : Int) f) = tx E) := by have := HEE.out; show tx (endL n (u : Int) f) = tx E; rw [this]
          rw [HT3.out]
          clear HL HT2 HT3
          have hlE : E.length + 1 ≤ 70368744177664 := by have := HL2.out; simp only [List.length_append, List.length_cons, List.length_nil] at this; omega
          have ha0 := saddc (tx E) ⟨#[10]⟩ (tx (E ++ [10])) (by show _ ++ tx [10] = _; rw [tx_app]) (by rw [tx_size]; simp only [List.length_append, List.length_cons, List.length_nil]; omega)
          by_cases hnm : r.names = []
          · have HTL : Hid (endL n (u : Int) f ++ [10] ++ tailL r = E ++ [10]) := by rw [HEE.out]; unfold tailL; rw [if_pos hnm]; exact List.append_nil _
            have hn0 : r.names.length = 0 := by rw [hnm]; rfl
            rw [hn0] at k1
            clear hn0 hnm
            go_wp2
            go_ret
            exact ⟨congrArg (fun l => Ending.returned (Value.string (tx l))) HTL.out.symm, HPa.out.bel⟩
          · have hn0 : ((r.names.length : Int) == 0) = false := by
              have : 0 < r.names.length := List.length_pos_iff.2 hnm
              simp; omega
            have HTL : Hid (E ++ [10] ++ tailL r = (E ++ [10] ++ [124, 32]) ++ listL (r.names.map quotL) ++ [10] ++ r.rows.flatMap rowL) := by
              show E ++ [10] ++ tailL r = (E ++ [10] ++ [124, 32]) ++ listL (r.names.map quotL) ++ [10] ++ r.rows.flatMap rowL
              unfold tailL; rw [if_neg hnm]; simp only [List.append_assoc]
            have HLL : Hid (((E ++ [10] ++ [124, 32]) ++ listL (r.names.map quotL) ++ [10] ++ r.rows.flatMap rowL).length ≤ 70368744177664) := by have := HL2.out; rw [HTL.out] at this; exact this
            obtain ⟨P, hPP⟩ : ∃ P, E ++ [10] ++ [124, 32] = P := ⟨_, rfl⟩
            have HPP : Hid (E ++ [10] ++ [124, 32] = P) := hPP
            clear hPP
            have ha1 := saddc (tx (E ++ [10])) ⟨#[124, 32]⟩ (tx P) (by show _ ++ tx [124, 32] = _; rw [tx_app, HPP.out]) (by rw [tx_size, ← HPP.out]; have := HLL.out; simp only [List.length_append, List.length_cons, List.length_nil] at this ⊢; omega)
            have HFIN : Hid (endL n (u : Int) f ++ [10] ++ tailL r = P ++ listL (r.names.map quotL) ++ [10] ++ r.rows.flatMap rowL) := by
              show endL n (u : Int) f ++ [10] ++ tailL r = P ++ listL (r.names.map quotL) ++ [10] ++ r.rows.flatMap rowL
              rw [HEE.out, HTL.out, HPP.out]
            have HPL : Hid ((P ++ listL (r.names.map quotL)).length + 1 + (r.rows.flatMap rowL).length ≤ 70368744177664) := by
              show (P ++ listL (r.names.map quotL)).length + 1 + (r.rows.flatMap rowL).length ≤ 70368744177664
              have := HLL.out
              rw [HPP.out] at this
              simp only [List.length_append, List.length_cons, List.length_nil] at this ⊢
              omega
            have HBN : Hid (∀ k, (P ++ listL ((r.names.map quotL).take k)).length + 1 + (r.rows.flatMap rowL).length ≤ 70368744177664) := by
              show ∀ k, (P ++ listL ((r.names.map quotL).take k)).length + 1 + (r.rows.flatMap rowL).length ≤ 70368744177664
              intro k
              have h1 := HPL.out
              have h2 := joinL_len (r.names.map quotL) k
              simp only [List.length_append] at h1 ⊢
              omega
            clear hnm HTL HLL HL2 hlE HPP HEE
            go_wp2_with fail
            go_loopw [4, 5] (fun t x wr => ∃ k : Nat, k ≤ r.names.length ∧ x = .int .i64 (k : Int) ∧ t = .string (tx (P ++ listL ((r.names.map quotL).take k))) ∧ RsS w wr C) (fun _ x _ => r.names.length - (intOf x).toNat)
            case atStart => exact ⟨0, by omega, rfl, by simp [listL, Lib.join_nil], HPa.out⟩
            case round =>
              obtain ⟨k, hk, rfl, rfl, hp⟩ := hrel
              clear k1 k2 k3 k4 k5 HPa
              obtain ⟨k1, k2, k3, k4, k5⟩ := HS6.out _ hp
              have HPa : Hid (RsS w wr C) := hp
              clear hp
              by_cases hkl : k < r.names.length
              · have hki : (k : Int) < (r.names.length : Int) := by omega
                have hw : IntKind.i64.wrap ((k : Int) + 1) = (k : Int) + 1 := by rw [IntKind.wrap_i64]; have := HK.out.namesN; omega
                obtain ⟨b, off, rfl, x0⟩ := (HN.out.later (HPa.out.bel.mono hB)).cell k hkl
                have HQ : Hid (∀ W : World, _) := fun W => quoR r.names[k] (HK.out.names k hkl) W
                have hjt := joinL_take (r.names.map quotL) k (by rw [List.length_map]; exact hkl)
                rw [List.getElem_map] at hjt
                have hb1 := HBN.out (k + 1)
                by_cases hk0 : k = 0
                · have hkz : ¬ 0 < k := by omega
                  have hky : ¬ (0 : Int) < (k : Int) := by omega
                  rw [if_pos hk0, List.append_nil] at hjt
                  have ha2 := saddc (tx (P ++ listL ((r.names.map quotL).take k))) (tx (quotL r.names[k])) (tx (P ++ listL ((r.names.map quotL).take (k + 1)))) (by rw [tx_app, hjt, List.append_assoc]) (by rw [tx_size]; omega)
                  clear hjt hb1 hk0 ha0 ha1
                  go_wp2_with fail
                  refine (HQ.out _).mono ?_
                  rintro e w1 ⟨rfl, rfl⟩
                  go_wp2
                  go_roundw
                  case rel => exact ⟨k + 1, by omega, by go_num, rfl, HPa.out⟩
                  case measure => simp [intOf]; omega
                · have hkz : 0 < k := by omega
                  have hky : (0 : Int) < (k : Int) := by omega
                  rw [if_neg hk0] at hjt
                  have ha2 := saddc (tx (P ++ listL ((r.names.map quotL).take k))) ⟨#[44, 32]⟩ (tx (P ++ listL ((r.names.map quotL).take k) ++ [44, 32])) (by show _ ++ tx [44, 32] = _; rw [tx_app]) (by rw [tx_size]; rw [hjt] at hb1; simp only [List.length_append] at hb1 ⊢; omega)
                  have ha3 := saddc (tx (P ++ listL ((r.names.map quotL).take k) ++ [44, 32])) (tx (quotL r.names[k])) (tx (P ++ listL ((r.names.map quotL).take (k + 1)))) (by rw [tx_app, hjt]; simp only [List.append_assoc]) (by rw [tx_size]; omega)
                  clear hjt hb1 hk0 ha0 ha1
                  generalize tx (P ++ listL ((r.names.map quotL).take k) ++ [44, 32]) = M at *
                  go_wp2_with fail
                  refine (HQ.out _).mono ?_
                  rintro e w1 ⟨rfl, rfl⟩
                  go_wp2
                  go_roundw
                  case rel => exact ⟨k + 1, by omega, by go_num, rfl, HPa.out⟩
                  case measure => simp [intOf]; omega
              · have hki : ¬ (k : Int) < (r.names.length : Int) := by omega
                have hke : (r.names.map quotL).take k = r.names.map quotL := List.take_of_length_le (by rw [List.length_map]; omega)
                rw [hke]
                obtain ⟨Q, hQQ⟩ : ∃ Q, P ++ listL (r.names.map quotL) ++ [10] = Q := ⟨_, rfl⟩
                have HQQ : Hid (P ++ listL (r.names.map quotL) ++ [10] = Q) := hQQ
                clear hQQ
                have ha2 := saddc (tx (P ++ listL (r.names.map quotL))) ⟨#[10]⟩ (tx Q) (by show _ ++ tx [10] = _; rw [tx_app, HQQ.out]) (by rw [tx_size, ← HQQ.out]; have := HPL.out; simp only [List.length_append, List.length_cons, List.length_nil] at this ⊢; omega)
                have HBR : Hid (∀ i, (Q ++ (r.rows.take i).flatMap rowL).length ≤ 70368744177664) := by
                  show ∀ i, (Q ++ (r.rows.take i).flatMap rowL).length ≤ 70368744177664
                  intro i
                  have h1 := HPL.out
                  have h2 := flat_take_le rowL r.rows i
                  rw [← HQQ.out]
                  simp only [List.length_append, List.length_cons, List.length_nil] at h1 ⊢
                  omega
                have HFI : Hid (endL n (u : Int) f ++ [10] ++ tailL r = Q ++ r.rows.flatMap rowL) := by
                  show endL n (u : Int) f ++ [10] ++ tailL r = Q ++ r.rows.flatMap rowL
                  rw [HFIN.out, HQQ.out]
                clear hke ha0 ha1 HFIN HBN HPL
                go_wp2_with fail
                clear HQQ hkl hki hk
                go_loopw [4, 6, 7] (fun t x _ wr => ∃ i : Nat, i ≤ r.rows.length ∧ x = .int .i64 (i : Int) ∧ t = .string (tx (Q ++ (r.rows.take i).flatMap rowL)) ∧ RsS w wr C) (fun _ x _ _ => r.rows.length - (intOf x).toNat)
                case atStart => exact ⟨0, by omega, rfl, by simp, HPa.out⟩
                case round =>
                  obtain ⟨i, hi, rfl, rfl, hp⟩ := hrel
                  clear k1 k2 k3 k4 k5 HPa ha2
                  obtain ⟨k1, k2, k3, k4, k5⟩ := HS6.out _ hp
                  have HPa : Hid (RsS w wr C) := hp
                  clear hp
                  by_cases hil : i < r.rows.length
                  · have hki : (i : Int) < (r.rows.length : Int) := by omega
                    have HW : Hid (IntKind.i64.wrap ((i : Int) + 1) = (i : Int) + 1) := by show IntKind.i64.wrap ((i : Int) + 1) = (i : Int) + 1; rw [IntKind.wrap_i64]; have := HK.out.rowsN; omega
                    have HRK : Hid (r.rows[i].length ≤ 1048576 ∧ ∀ j (g : j < r.rows[i].length), VOK r.rows[i][j]) := HK.out.rows i hil
                    have hft := flat_take rowL r.rows i hil
                    have hbd := HBR.out (i + 1)
                    rw [hft] at hbd
                    obtain ⟨M, hM⟩ : ∃ M, Q ++ (r.rows.take i).flatMap rowL ++ [32, 32] = M := ⟨_, rfl⟩
                    have HNX : Hid (Q ++ (r.rows.take (i + 1)).flatMap rowL = M ++ listL (r.rows[i].map valL) ++ [10]) := by
                      show Q ++ (r.rows.take (i + 1)).flatMap rowL = M ++ listL (r.rows[i].map valL) ++ [10]
                      rw [hft, ← hM]
                      unfold rowL
                      simp only [List.append_assoc]
                    have hb2 := HBR.out (i + 1)
                    rw [HNX.out] at hb2
                    have ha1 := saddc (tx (Q ++ (r.rows.take i).flatMap rowL)) ⟨#[32, 32]⟩ (tx M) (by show _ ++ tx [32, 32] = _; rw [tx_app, hM]) (by rw [tx_size]; simp only [List.length_append] at hb2; omega)
                    have HBJ : Hid (∀ j, (M ++ listL ((r.rows[i].map valL).take j)).length + 1 ≤ 70368744177664) := by
                      show ∀ j, (M ++ listL ((r.rows[i].map valL).take j)).length + 1 ≤ 70368744177664
                      intro j
                      have h2 := joinL_len (r.rows[i].map valL) j
                      simp only [List.length_append, List.length_cons, List.length_nil] at hb2 ⊢
                      omega
                    clear hft hbd hM hb2
                    generalize tx (Q ++ (r.rows.take i).flatMap rowL) = T0 at *
                    go_wp2_with fail
                    go_loopw [4, 7] (fun t x wr => ∃ j : Nat, j ≤ r.rows[i].length ∧ x = .int .i64 (j : Int) ∧ t = .string (tx (M ++ listL ((r.rows[i].map valL).take j))) ∧ RsS w wr C) (fun _ x _ => r.rows[i].length - (intOf x).toNat)
                    case atStart => exact ⟨0, by omega, rfl, by simp [listL, Lib.join_nil], HPa.out⟩
                    case round =>
                      obtain ⟨j, hj, rfl, rfl, hp⟩ := hrel
                      clear k1 k2 k3 k4 k5 HPa ha1
                      obtain ⟨k1, k2, k3, k4, k5⟩ := HS6.out _ hp
                      have HPa : Hid (RsS w wr C) := hp
                      clear hp
                      obtain ⟨b, off, x, rfl, x0, hv⟩ := (HR.out.later (HPa.out.bel.mono hB)).cell i hil
                      obtain ⟨va, vc, rfl⟩ := hv.form
                      have HV : Hid (SeesV wr B (.slice va r.rows[i].length vc) r.rows[i]) := hv
                      clear hv
                      by_cases hjl : j < r.rows[i].length
                      · have hkj : (j : Int) < (r.rows[i].length : Int) := by omega
                        have hw : IntKind.i64.wrap ((j : Int) + 1) = (j : Int) + 1 := by rw [IntKind.wrap_i64]; have := HRK.out.1; omega
                        obtain ⟨b2, off2, rfl, y0, y1, y2⟩ := HV.out.cell j hjl
                        have HQ : Hid (∀ W : World, _) := fun W => wordR r.rows[i][j] (HRK.out.2 j hjl) W
                        have hjt := joinL_take (r.rows[i].map valL) j (by rw [List.length_map]; exact hjl)
                        rw [List.getElem_map] at hjt
                        have hb1 := HBJ.out (j + 1)
                        by_cases hj0 : j = 0
                        · have hkz : ¬ 0 < j := by omega
                          have hky : ¬ (0 : Int) < (j : Int) := by omega
                          rw [if_pos hj0, List.append_nil] at hjt
                          have ha2 := saddc (tx (M ++ listL ((r.rows[i].map valL).take j))) (tx (valL r.rows[i][j])) (tx (M ++ listL ((r.rows[i].map valL).take (j + 1)))) (by rw [tx_app, hjt, List.append_assoc]) (by rw [tx_size]; omega)
                          clear hjt hb1 hj0
                          go_wp2_with fail
                          refine (HQ.out _).mono ?_
                          rintro e w1 ⟨rfl, hb3⟩
                          have HP1 : Hid (RsS w w1 C) := HPa.out.call hb3
                          clear hb3
                          go_wp2
                          go_roundw
                          case rel => exact ⟨j + 1, by omega, by go_num, rfl, HP1.out⟩
                          case measure => simp [intOf]; omega
                        · have hkz : 0 < j := by omega
                          have hky : (0 : Int) < (j : Int) := by omega
                          rw [if_neg hj0] at hjt
                          have ha2 := saddc (tx (M ++ listL ((r.rows[i].map valL).take j))) ⟨#[44, 32]⟩ (tx (M ++ listL ((r.rows[i].map valL).take j) ++ [44, 32])) (by show _ ++ tx [44, 32] = _; rw [tx_app]) (by rw [tx_size]; rw [hjt] at hb1; simp only [List.length_append] at hb1 ⊢; omega)
                          have ha3 := saddc (tx (M ++ listL ((r.rows[i].map valL).take j) ++ [44, 32])) (tx (valL r.rows[i][j])) (tx (M ++ listL ((r.rows[i].map valL).take (j + 1)))) (by rw [tx_app, hjt]; simp only [List.append_assoc]) (by rw [tx_size]; omega)
                          clear hjt hb1 hj0
                          generalize tx (M ++ listL ((r.rows[i].map valL).take j) ++ [44, 32]) = M2 at *
                          go_wp2_with fail
                          refine (HQ.out _).mono ?_
                          rintro e w1 ⟨rfl, hb3⟩
                          have HP1 : Hid (RsS w w1 C) := HPa.out.call hb3
                          clear hb3
                          go_wp2
                          go_roundw
                          case rel => exact ⟨j + 1, by omega, by go_num, rfl, HP1.out⟩
                          case measure => simp [intOf]; omega
                      · have hkj : ¬ (j : Int) < (r.rows[i].length : Int) := by omega
                        have hje : (r.rows[i].map valL).take j = r.rows[i].map valL := List.take_of_length_le (by rw [List.length_map]; omega)
                        have hbj := HBJ.out j
                        rw [hje] at hbj ⊢
                        have ha2 := saddc (tx (M ++ listL (r.rows[i].map valL))) ⟨#[10]⟩ (tx (Q ++ (r.rows.take (i + 1)).flatMap rowL)) (by show _ ++ tx [10] = _; rw [tx_app, HNX.out]) (by rw [HNX.out, tx_size, List.length_append]; simp only [List.length_cons, List.length_nil]; omega)
                        have hw := HW.out
                        clear hje hbj
                        go_wp2
                        go_roundw
                        case rel => exact ⟨i + 1, by omega, by go_num, rfl, HPa.out⟩
                        case measure => simp [intOf]; omega
                  · have hki : ¬ (i : Int) < (r.rows.length : Int) := by omega
                    have hie : r.rows.take i = r.rows := List.take_of_length_le (by omega)
                    rw [hie]
                    clear hie
                    go_wp2
                    go_ret
                    exact ⟨congrArg (fun l => Ending.returned (Value.string (tx l))) (HFI.out.symm.trans (by simp only [List.append_assoc, List.singleton_append])), HPa.out.bel⟩
end Go.Proofs.YtoomekcglniohaaDoor
