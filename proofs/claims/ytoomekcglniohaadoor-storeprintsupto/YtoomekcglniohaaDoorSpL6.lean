import Derived.Test.YtoomekcglniohaaDoorSpL5
namespace Go.Proofs.YtoomekcglniohaaDoor
open Go.ChangeShapes Go.WideShapes Go.ChangeAt Go.RowKit
set_option linter.unusedVariables false
set_option maxRecDepth 100000
theorem hideG {P : Prop} (h : Hid P) : P := h.out
def c77 : RPV := (⟨77, 77, 0, 0, 0, [], [], 0, 0, 0, []⟩, .slice none 0 0, .slice none 0 0, .slice none 0 0)
theorem cR_one {w : World} {B : Nat} {p : RPV} (h : RpSee w B p) : ∀ u ∈ cR p, u.oneCell' = true := by
  obtain ⟨na, nc, e1⟩ := h.names.form
  obtain ⟨qs, _, h2, _⟩ := h.rows
  obtain ⟨ra, rc, e2⟩ := h2.form
  obtain ⟨ma, mc, e3⟩ := h.nums.form
  intro u hu
  simp only [cR, List.mem_cons, List.not_mem_nil, or_false] at hu
  rcases hu with rfl | rfl | rfl | rfl | rfl | rfl | rfl | rfl | rfl | rfl | rfl
  all_goals first | rfl | (rw [e1]; rfl) | (rw [e2]; rfl) | (rw [e3]; rfl)
theorem OwG.some {α : Type} {cs : α → List Value} {e : TypeId} {n : Nat} {w : World} {B : Nat} {v : Value} {xs : List α} (h : OwG cs e n w B v xs) (hne : xs ≠ []) : ∃ g cap, v = .slice (some ⟨g, 0, none⟩) xs.length cap ∧ B ≤ g ∧ g < w.heap.size ∧ xs.length ≤ cap := by
  rcases h.2 with ⟨_, hn⟩ | ⟨g, cap, cur, rfl, h1, h2, h3, _⟩
  · exact absurd (List.eq_nil_of_length_eq_zero hn) hne
  · exact ⟨g, cap, rfl, h1, (Array.getElem?_eq_some_iff.1 h2).1, h3⟩
theorem InG.front {α : Type} {cs : α → List Value} {w : World} {B cap : Nat} {a : Option Addr} {xs : List α} {c : α} (h : InG cs w B (.slice a (xs.length + 1) cap) (xs ++ [c])) : InG cs w B (.slice a xs.length cap) xs := by
  obtain ⟨ao, cap', e, h1, h2, h3⟩ := h
  injection e with e1 e2 e3
  subst e1 e3
  refine ⟨a, cap, rfl, by rw [List.length_append] at h1; omega, h2, fun j u hj => h3 j u ?_⟩
  rw [List.flatMap_append, List.getElem?_append_left (List.getElem?_eq_some_iff.1 hj).1]
  exact hj
theorem take_fst (ps qs : List RPV) (k : Nat) (hk : k < ps.length) (h : qs.map (·.1) = (ps.take k).map (·.1)) (q : RPV) (hq : q.1 = ps[k].1) : (qs ++ [q]).map (·.1) = (ps.take (k + 1)).map (·.1) := by
  rw [List.map_append, h, List.take_succ_eq_append_getElem hk, List.map_append]
  simp [hq]
theorem take_snd (rs : List (List VL)) (qs : List (Value × List VL)) (k : Nat) (hk : k < rs.length) (h : qs.map (·.2) = rs.take k) (q : Value × List VL) (hq : q.2 = rs[k]) : (qs ++ [q]).map (·.2) = rs.take (k + 1) := by
  rw [List.map_append, h, List.take_succ_eq_append_getElem hk]
  simp [hq]
set_option maxHeartbeats 8000000 in
theorem prints_walk (v : Value) (ps : List RPV) (w : World) (hv : InG cR w w.heap.size v ps) (hs : ∀ p ∈ ps, RpSee w w.heap.size p) (hn : ps.length ≤ 1048576) (hr : ∀ p ∈ ps, ROK p.1) (hlen : (printL (ps.map (·.1))).length ≤ 70368744177664) (hg : GW w) :
    Calls Tryd.prog 3 #[v] w fun e w' => e = .returned (.bool true) ∧ Below w.heap.size w w' := by
  obtain ⟨a, cap, rfl⟩ := hv.form
  have HV : Hid (InG cR w w.heap.size (.slice a ps.length cap) ps) := hv
  have HS : Hid (∀ p ∈ ps, RpSee w w.heap.size p) := hs
  have HR : Hid (∀ p ∈ ps, ROK p.1) := hr
  have HL : Hid ((printL (ps.map (·.1))).length ≤ 70368744177664) := hlen
  have HG : Hid (GW w) := hg
  clear hv hs hr hlen hg
  go_enter Tryd.func3, Tryd.ntmps3
  go_wp2
  go_loopw [3, 4, 5, 6, 7, 8] (fun q x _ _ _ _ wr => ∃ (k : Nat) (qs : List RPV), k ≤ ps.length ∧ x = .int .i64 (k : Int) ∧ OwG cR 36 11 wr w.heap.size q qs ∧ qs.map (·.1) = (ps.take k).map (·.1) ∧ (∀ p ∈ qs, RpOwn wr p) ∧ Below w.heap.size w wr) (fun _ x _ _ _ _ _ => ps.length - (intOf x).toNat)
  case atStart => exact ⟨0, [], by omega, rfl, OwG.nil _ _ _ _ _, rfl, (fun p hp => by cases hp), Below.refl _ _⟩
  case round =>
    obtain ⟨k, qs, hk, rfl, ho, hq, hqo, hb⟩ := hrel
    obtain ⟨ca, cc, rfl⟩ := ho.form
    have HO : Hid (OwG cR 36 11 wr w.heap.size (.slice ca qs.length cc) qs) := ho
    have HQ : Hid (qs.map (·.1) = (ps.take k).map (·.1)) := hq
    have HQL : Hid (∀ _ : Unit, qs.length = k) := fun _ => by
      have := congrArg List.length hq
      rw [List.length_map, List.length_map, List.length_take] at this
      omega
    have HQO : Hid (∀ p ∈ qs, RpOwn wr p) := hqo
    have HB : Hid (Below w.heap.size w wr) := hb
    have hsz := hb.size
    clear ho hq hqo hb
    by_cases hkl : k < ps.length
    · have hki : (k : Int) < (ps.length : Int) := by omega
      obtain ⟨wo, hwo⟩ : ∃ wo, wo = wr := ⟨_, rfl⟩
      subst hwo
      obtain ⟨bb, off, na, nc, ra, rc, ma, mc, rfl, hbb, hp2, hri⟩ := rep_at (HV.out.later HB.out) (fun p hp => (HS.out p hp).later HB.out) k hkl
      have hsk := (HS.out _ (List.getElem_mem hkl)).later HB.out
      have hrk := HR.out _ (List.getElem_mem hkl)
      obtain ⟨p, hep⟩ : ∃ p, ps[k] = p := ⟨_, rfl⟩
      rw [hep] at hp2 hri hsk hrk
      obtain ⟨r, vn, vr, vm⟩ := p
      dsimp only at hp2 hri hsk hrk
      injection hp2 with h1 h2
      injection h2 with h2 h3
      subst h1 h2 h3
      have HNm : Hid (InG cS wo w.heap.size (.slice na r.names.length nc) r.names) := hsk.names
      have HNu : Hid (InG cI wo w.heap.size (.slice ma r.nums.length mc) r.nums) := hsk.nums
      obtain ⟨rq, herq, hrq, hrv⟩ := hsk.rows
      have HRq : Hid (rq.map (·.2) = r.rows) := herq
      have HRw : Hid (InG cL wo w.heap.size (.slice ra r.rows.length rc) rq) := hrq
      have HRv : Hid (∀ q ∈ rq, InG cV wo w.heap.size q.1 q.2) := hrv
      have HK : Hid (ROK r) := hrk
      have HNx : Hid (∀ q : RPV, q.1 = r → (qs ++ [q]).map (·.1) = (ps.take (k + 1)).map (·.1)) := fun q hq => take_fst ps qs k hkl HQ.out q (by rw [hep]; exact hq)
      clear hsk hrk herq hrq hrv hep
      obtain ⟨c0, c1, c2, c3, c4, c5, c6, c7, c8, c9, c10, zz1, zz2, zz3⟩ := hri
      clear zz1 zz2 zz3
      have HP : Hid (QS wo ((wo.alloc (.cells #[.int .i64 r.cmd, .int .i64 r.kind, .int .i64 r.who, .int .i64 r.code, .int .i64 r.rcode, .slice na r.names.length nc, .slice ra r.rows.length rc, .int .i64 r.count, .int .u64 r.stamp, .int .i64 r.fin, .slice ma r.nums.length mc] 32)).alloc (.cells #[.int .i64 r.cmd, .int .i64 r.kind, .int .i64 r.who, .int .i64 r.code, .int .i64 0, .slice none 0 0, .slice none 0 0, .int .i64 0, .int .u64 0, .int .i64 0, .slice none 0 0] 36)) #[.int .i64 r.cmd, .int .i64 r.kind, .int .i64 r.who, .int .i64 r.code, .int .i64 r.rcode, .slice na r.names.length nc, .slice ra r.rows.length rc, .int .i64 r.count, .int .u64 r.stamp, .int .i64 r.fin, .slice ma r.nums.length mc] #[.int .i64 r.cmd, .int .i64 r.kind, .int .i64 r.who, .int .i64 r.code, .int .i64 0, .slice none 0 0, .slice none 0 0, .int .i64 0, .int .u64 0, .int .i64 0, .slice none 0 0]) := by
        refine ⟨((Below.refl _ _).alloc (Nat.le_refl _) _).alloc (by rw [szAl]; omega) _, ?_, ?_⟩
        · exact (Below.heap_alloc _ _ _ (by rw [szAl]; omega)).trans (heap_new _ _)
        · have := heap_new (wo.alloc (.cells #[.int .i64 r.cmd, .int .i64 r.kind, .int .i64 r.who, .int .i64 r.code, .int .i64 r.rcode, .slice na r.names.length nc, .slice ra r.rows.length rc, .int .i64 r.count, .int .u64 r.stamp, .int .i64 r.fin, .slice ma r.nums.length mc] 32)) (.cells #[.int .i64 r.cmd, .int .i64 r.kind, .int .i64 r.who, .int .i64 r.code, .int .i64 0, .slice none 0 0, .slice none 0 0, .int .i64 0, .int .u64 0, .int .i64 0, .slice none 0 0] 36)
          rw [szAl] at this
          exact this
      go_wp2_with fail
      refine (numL r.code _).mono ?_
      rintro e w3 ⟨rfl, rfl⟩
      go_wp2_with (at_builtin; refine hideG ?_)
      change wpList _ _ _ _ _ _
      clear c0 c1 c2 c3 c4 c5 c6 c7 c8 c9 c10
      generalize ((wo.alloc (.cells #[.int .i64 r.cmd, .int .i64 r.kind, .int .i64 r.who, .int .i64 r.code, .int .i64 r.rcode, .slice na r.names.length nc, .slice ra r.rows.length rc, .int .i64 r.count, .int .u64 r.stamp, .int .i64 r.fin, .slice ma r.nums.length mc] 32)).alloc (.cells #[.int .i64 r.cmd, .int .i64 r.kind, .int .i64 r.who, .int .i64 r.code, .int .i64 0, .slice none 0 0, .slice none 0 0, .int .i64 0, .int .u64 0, .int .i64 0, .slice none 0 0] 36)) = W0 at *
      refine app_all (by rfl) _ _ 30 3 (by rfl) Tryd.underlying30 infoIn rfl (by omega) (fun _ => rfl) (by rfl) _ r.nums w.heap.size (by rfl) (HNu.out.later (HP.out.bel.mono hsz)) (fun y _ u hu => by simp [cI] at hu; subst hu; rfl) (by have := HK.out.numsN; unfold maxLen; omega) (by have := HK.out.numsN; omega) ?_
      intro v1 w1 ho1 hb1
      obtain ⟨a1, k1, rfl⟩ := ho1.form
      have HP1 : Hid (QS wo w1 #[.int .i64 r.cmd, .int .i64 r.kind, .int .i64 r.who, .int .i64 r.code, .int .i64 r.rcode, .slice na r.names.length nc, .slice ra r.rows.length rc, .int .i64 r.count, .int .u64 r.stamp, .int .i64 r.fin, .slice ma r.nums.length mc] #[.int .i64 r.cmd, .int .i64 r.kind, .int .i64 r.who, .int .i64 r.code, .int .i64 0, .slice none 0 0, .slice none 0 0, .int .i64 0, .int .u64 0, .int .i64 0, .slice none 0 0]) := HP.out.call (hb1.mono HP.out.lt)
      have HN1 : Hid (OwG cI 3 1 w1 0 (.slice a1 r.nums.length k1) r.nums) := ho1.down (Nat.zero_le _)
      clear ho1 hb1 HP
      have f10 := HP1.out.free 10
      have g10 : w1.cell? ⟨wo.heap.size + 1, 10, none⟩ = some (.slice none 0 0) := HP1.out.dell 10
      have HP2 : Hid (QS wo (w1.setCell ⟨wo.heap.size + 1, 10, none⟩ (.slice a1 r.nums.length k1)) #[.int .i64 r.cmd, .int .i64 r.kind, .int .i64 r.who, .int .i64 r.code, .int .i64 r.rcode, .slice na r.names.length nc, .slice ra r.rows.length rc, .int .i64 r.count, .int .u64 r.stamp, .int .i64 r.fin, .slice ma r.nums.length mc] #[.int .i64 r.cmd, .int .i64 r.kind, .int .i64 r.who, .int .i64 r.code, .int .i64 0, .slice none 0 0, .slice none 0 0, .int .i64 0, .int .u64 0, .int .i64 0, .slice a1 r.nums.length k1]) := HP1.out.set 10 (.slice a1 r.nums.length k1)
      have HN2 : Hid (OwG cI 3 1 (w1.setCell ⟨wo.heap.size + 1, 10, none⟩ (.slice a1 r.nums.length k1)) 0 (.slice a1 r.nums.length k1) r.nums) := HN1.out.kept (HP1.out.kp 10 _) (by decide)
      have x4 : (w1.setCell ⟨wo.heap.size + 1, 10, none⟩ (.slice a1 r.nums.length k1)).cell? ⟨wo.heap.size, 4, none⟩ = some (.int .i64 r.rcode) := HP2.out.cell 4
      have g4 : (w1.setCell ⟨wo.heap.size + 1, 10, none⟩ (.slice a1 r.nums.length k1)).cell? ⟨wo.heap.size + 1, 4, none⟩ = some (.int .i64 0) := HP2.out.dell 4
      have f4 := HP2.out.free 4
      clear HP1 HN1
      go_wp2_with fail
      refine (numL r.rcode _).mono ?_
      rintro e w3 ⟨rfl, rfl⟩
      generalize w1.setCell ⟨wo.heap.size + 1, 10, none⟩ (.slice a1 r.nums.length k1) = W2 at *
      have HP3 : Hid (QS wo (W2.setCell ⟨wo.heap.size + 1, 4, none⟩ (.int .i64 r.rcode)) #[.int .i64 r.cmd, .int .i64 r.kind, .int .i64 r.who, .int .i64 r.code, .int .i64 r.rcode, .slice na r.names.length nc, .slice ra r.rows.length rc, .int .i64 r.count, .int .u64 r.stamp, .int .i64 r.fin, .slice ma r.nums.length mc] #[.int .i64 r.cmd, .int .i64 r.kind, .int .i64 r.who, .int .i64 r.code, .int .i64 r.rcode, .slice none 0 0, .slice none 0 0, .int .i64 0, .int .u64 0, .int .i64 0, .slice a1 r.nums.length k1]) := HP2.out.set 4 (.int .i64 r.rcode)
      have HN3 : Hid (OwG cI 3 1 (W2.setCell ⟨wo.heap.size + 1, 4, none⟩ (.int .i64 r.rcode)) 0 (.slice a1 r.nums.length k1) r.nums) := HN2.out.kept (HP2.out.kp 4 _) (by decide)
      have x5 : (W2.setCell ⟨wo.heap.size + 1, 4, none⟩ (.int .i64 r.rcode)).cell? ⟨wo.heap.size, 5, none⟩ = some (.slice na r.names.length nc) := HP3.out.cell 5
      have g5 : (W2.setCell ⟨wo.heap.size + 1, 4, none⟩ (.int .i64 r.rcode)).cell? ⟨wo.heap.size + 1, 5, none⟩ = some (.slice none 0 0) := HP3.out.dell 5
      clear HP2 HN2
      go_wp2_with (at_builtin; refine hideG ?_)
      change wpList _ _ _ _ _ _
      clear x4 g4 f4 f10 g10
      generalize W2.setCell ⟨wo.heap.size + 1, 4, none⟩ (.int .i64 r.rcode) = W3 at *
      clear x5 g5
      refine app_all (by rfl) _ _ 25 9 (by rfl) Tryd.underlying25 infoSt rfl (by omega) (fun _ => rfl) (by rfl) _ r.names w.heap.size (by rfl) (HNm.out.later (HP3.out.bel.mono hsz)) (fun y _ u hu => by simp [cS] at hu; subst hu; rfl) (by have := HK.out.namesN; unfold maxLen; omega) (by have := HK.out.namesN; omega) ?_
      intro v4 w4 ho4 hb4
      obtain ⟨a4, k4, rfl⟩ := ho4.form
      have HP4 : Hid (QS wo w4 #[.int .i64 r.cmd, .int .i64 r.kind, .int .i64 r.who, .int .i64 r.code, .int .i64 r.rcode, .slice na r.names.length nc, .slice ra r.rows.length rc, .int .i64 r.count, .int .u64 r.stamp, .int .i64 r.fin, .slice ma r.nums.length mc] #[.int .i64 r.cmd, .int .i64 r.kind, .int .i64 r.who, .int .i64 r.code, .int .i64 r.rcode, .slice none 0 0, .slice none 0 0, .int .i64 0, .int .u64 0, .int .i64 0, .slice a1 r.nums.length k1]) := HP3.out.call (hb4.mono HP3.out.lt)
      have HN4 : Hid (OwG cI 3 1 w4 0 (.slice a1 r.nums.length k1) r.nums) := HN3.out.later hb4
      have HM4 : Hid (OwG cS 9 1 w4 0 (.slice a4 r.names.length k4) r.names) := ho4.down (Nat.zero_le _)
      clear ho4 hb4 HP3 HN3
      have f5 := HP4.out.free 5
      have g5 : w4.cell? ⟨wo.heap.size + 1, 5, none⟩ = some (.slice none 0 0) := HP4.out.dell 5
      have HP5 : Hid (QS wo (w4.setCell ⟨wo.heap.size + 1, 5, none⟩ (.slice a4 r.names.length k4)) #[.int .i64 r.cmd, .int .i64 r.kind, .int .i64 r.who, .int .i64 r.code, .int .i64 r.rcode, .slice na r.names.length nc, .slice ra r.rows.length rc, .int .i64 r.count, .int .u64 r.stamp, .int .i64 r.fin, .slice ma r.nums.length mc] #[.int .i64 r.cmd, .int .i64 r.kind, .int .i64 r.who, .int .i64 r.code, .int .i64 r.rcode, .slice a4 r.names.length k4, .slice none 0 0, .int .i64 0, .int .u64 0, .int .i64 0, .slice a1 r.nums.length k1]) := HP4.out.set 5 (.slice a4 r.names.length k4)
      have HN5 : Hid (OwG cI 3 1 (w4.setCell ⟨wo.heap.size + 1, 5, none⟩ (.slice a4 r.names.length k4)) 0 (.slice a1 r.nums.length k1) r.nums) := HN4.out.kept (HP4.out.kp 5 _) (by decide)
      have HM5 : Hid (OwG cS 9 1 (w4.setCell ⟨wo.heap.size + 1, 5, none⟩ (.slice a4 r.names.length k4)) 0 (.slice a4 r.names.length k4) r.names) := HM4.out.kept (HP4.out.kp 5 _) (by decide)
      clear HP4 HN4 HM4
      go_wp2_with fail
      generalize w4.setCell ⟨wo.heap.size + 1, 5, none⟩ (.slice a4 r.names.length k4) = W5 at *
      clear f5 g5
      go_loopw [7, 8] (fun x _ wx => ∃ (j : Nat) (tq : List (Value × List VL)) (ta : Option Addr) (tc : Nat), j ≤ r.rows.length ∧ x = .int .i64 (j : Int) ∧ tq.length = j ∧ QS wo wx #[.int .i64 r.cmd, .int .i64 r.kind, .int .i64 r.who, .int .i64 r.code, .int .i64 r.rcode, .slice na r.names.length nc, .slice ra r.rows.length rc, .int .i64 r.count, .int .u64 r.stamp, .int .i64 r.fin, .slice ma r.nums.length mc] #[.int .i64 r.cmd, .int .i64 r.kind, .int .i64 r.who, .int .i64 r.code, .int .i64 r.rcode, .slice a4 r.names.length k4, .slice ta j tc, .int .i64 0, .int .u64 0, .int .i64 0, .slice a1 r.nums.length k1] ∧ OwG cL 38 1 wx (wo.heap.size + 2) (.slice ta j tc) tq ∧ tq.map (·.2) = r.rows.take j ∧ (∀ q ∈ tq, OwG cV 65 3 wx 0 q.1 q.2) ∧ OwG cI 3 1 wx 0 (.slice a1 r.nums.length k1) r.nums ∧ OwG cS 9 1 wx 0 (.slice a4 r.names.length k4) r.names) (fun x _ _ => r.rows.length - (intOf x).toNat)
      case atStart => exact ⟨0, [], none, 0, by omega, rfl, rfl, HP5.out, OwG.nil _ _ _ _ _, rfl, (fun q hq => by cases hq), HN5.out, HM5.out⟩
      case round =>
        obtain ⟨j, tq, ta, tc, hj, rfl, htl, hp, ht, htm, htq, hnn, hmm⟩ := hrel
        have HT : Hid (OwG cL 38 1 wr (wo.heap.size + 2) (.slice ta j tc) tq) := ht
        have HTM : Hid (tq.map (·.2) = r.rows.take j) := htm
        have HTL : Hid (∀ _ : Unit, tq.length = j) := fun _ => htl
        have HTQ : Hid (∀ q ∈ tq, OwG cV 65 3 wr 0 q.1 q.2) := htq
        have HNn : Hid (OwG cI 3 1 wr 0 (.slice a1 r.nums.length k1) r.nums) := hnn
        have HMm : Hid (OwG cS 9 1 wr 0 (.slice a4 r.names.length k4) r.names) := hmm
        have HPj : Hid (QS wo wr #[.int .i64 r.cmd, .int .i64 r.kind, .int .i64 r.who, .int .i64 r.code, .int .i64 r.rcode, .slice na r.names.length nc, .slice ra r.rows.length rc, .int .i64 r.count, .int .u64 r.stamp, .int .i64 r.fin, .slice ma r.nums.length mc] #[.int .i64 r.cmd, .int .i64 r.kind, .int .i64 r.who, .int .i64 r.code, .int .i64 r.rcode, .slice a4 r.names.length k4, .slice ta j tc, .int .i64 0, .int .u64 0, .int .i64 0, .slice a1 r.nums.length k1]) := hp
        clear ht htm htl htq hnn hmm hp HP5 HN5 HM5
        have HRL : Hid (∀ _ : Unit, rq.length = r.rows.length) := fun _ => by rw [← HRq.out, List.length_map]
        by_cases hjl : j < r.rows.length
        · have hjr : j < rq.length := by rw [HRL.out ()]; exact hjl
          have hkj : (j : Int) < (r.rows.length : Int) := by omega
          have hjb : r.rows.length ≤ 1048576 := HK.out.rowsN
          obtain ⟨b6, o6, rfl, hb6', hc6⟩ := ((HRw.out.later (HPj.out.bel.mono hsz)).cell (n := 1) (fun _ => rfl) j hjr (by omega))
          have y0 := hc6 0 (by omega)
          rw [Nat.mul_one, Nat.add_zero] at y0
          have hrow := (HRv.out _ (List.getElem_mem hjr)).later (HPj.out.bel.mono hsz)
          have hlrow : rq[j].2.length ≤ 1048576 := by
            have e : rq[j].2 = r.rows[j] := by
              have := HRq.out
              subst_vars
              simp only [← HRq.out, List.getElem_map]
            rw [e]
            exact (HK.out.rows j hjl).1
          have HNw : Hid (∀ q : Value × List VL, q.2 = rq[j].2 → (tq ++ [q]).map (·.2) = r.rows.take (j + 1)) := fun q hq => take_snd r.rows tq j hjl HTM.out q (by rw [hq]; simp only [← HRq.out, List.getElem_map])
          obtain ⟨q, hqe⟩ : ∃ q, rq[j] = q := ⟨_, rfl⟩
          rw [hqe] at y0 hrow hlrow HNw
          obtain ⟨vx, xs⟩ := q
          dsimp only at hrow hlrow HNw
          obtain ⟨xa, xc, rfl⟩ := hrow.form
          have y1 : wr.cell? ⟨b6, o6 + j, none⟩ = some (.slice xa xs.length xc) := y0
          have HX : Hid (InG cV wr w.heap.size (.slice xa xs.length xc) xs) := hrow
          have x6 : wr.cell? ⟨wo.heap.size, 6, none⟩ = some (.slice (some ⟨b6, o6, none⟩) r.rows.length rc) := HPj.out.cell 6
          clear y0 hrow hqe hc6
          go_wp2_with (at_builtin; refine hideG ?_)
          change wpList _ _ _ _ _ _
          clear y1 x6
          refine app_all (by rfl) _ _ 38 65 (by rfl) Tryd.underlying38 infoVa rfl (by omega) (fun _ => rfl) (by rfl) _ xs w.heap.size (by rfl) HX.out (fun y _ u hu => by simp [cV] at hu; rcases hu with rfl | rfl | rfl <;> rfl) (by unfold maxLen; omega) (by omega) ?_
          intro v6 w6 ho6 hb6
          obtain ⟨a6, k6, rfl⟩ := ho6.form
          have HP6 : Hid (QS wo w6 #[.int .i64 r.cmd, .int .i64 r.kind, .int .i64 r.who, .int .i64 r.code, .int .i64 r.rcode, .slice na r.names.length nc, .slice (some ⟨b6, o6, none⟩) r.rows.length rc, .int .i64 r.count, .int .u64 r.stamp, .int .i64 r.fin, .slice ma r.nums.length mc] #[.int .i64 r.cmd, .int .i64 r.kind, .int .i64 r.who, .int .i64 r.code, .int .i64 r.rcode, .slice a4 r.names.length k4, .slice ta j tc, .int .i64 0, .int .u64 0, .int .i64 0, .slice a1 r.nums.length k1]) := HPj.out.call (hb6.mono HPj.out.lt)
          have HT6 : Hid (OwG cL 38 1 w6 (wo.heap.size + 2) (.slice ta j tc) tq) := HT.out.later hb6
          have HTQ6 : Hid (∀ q ∈ tq ++ [((.slice a6 xs.length k6 : Value), xs)], OwG cV 65 3 w6 0 q.1 q.2) := by
            show ∀ q ∈ tq ++ [((.slice a6 xs.length k6 : Value), xs)], OwG cV 65 3 w6 0 q.1 q.2
            intro q hq
            rcases List.mem_append.1 hq with hq | hq
            · exact (HTQ.out q hq).later hb6
            · rw [List.mem_singleton.1 hq]
              exact ho6.down (Nat.zero_le _)
          have HNn6 : Hid (OwG cI 3 1 w6 0 (.slice a1 r.nums.length k1) r.nums) := HNn.out.later hb6
          have HMm6 : Hid (OwG cS 9 1 w6 0 (.slice a4 r.names.length k4) r.names) := HMm.out.later hb6
          clear ho6 hb6 HPj HT HTQ HNn HMm
          have g6 : w6.cell? ⟨wo.heap.size + 1, 6, none⟩ = some (.slice ta j tc) := HP6.out.dell 6
          go_wp2_with (at_builtin; refine hideG ?_)
          change wpList _ _ _ _ _ _
          clear g6
          refine app_one (cs := cL) (by rfl) _ _ 26 38 (by rfl) Tryd.underlying26 infoLi rfl (by omega) (fun _ => rfl) (wo.heap.size + 2) _ tq ((.slice a6 xs.length k6 : Value), xs) HT6.out (by rfl) w6.heap.size rfl (by rfl) (fun u hu => by simp [cL] at hu; subst hu; rfl) _ (by rfl) (by rw [HTL.out ()]; have := HK.out.rowsN; unfold maxLen; omega) (by rw [HTL.out ()]; have := HK.out.rowsN; omega) HP6.out.lt ?_
          intro v7 w7 ho7 hb7 hk7
          obtain ⟨a7, k7, rfl⟩ := ho7.form
          have hl7 : (tq ++ [((.slice a6 xs.length k6 : Value), xs)]).length = j + 1 := by rw [List.length_append, HTL.out ()]; rfl
          rw [hl7] at ho7 ⊢
          have HP7 : Hid (QS wo w7 #[.int .i64 r.cmd, .int .i64 r.kind, .int .i64 r.who, .int .i64 r.code, .int .i64 r.rcode, .slice na r.names.length nc, .slice (some ⟨b6, o6, none⟩) r.rows.length rc, .int .i64 r.count, .int .u64 r.stamp, .int .i64 r.fin, .slice ma r.nums.length mc] #[.int .i64 r.cmd, .int .i64 r.kind, .int .i64 r.who, .int .i64 r.code, .int .i64 r.rcode, .slice a4 r.names.length k4, .slice ta j tc, .int .i64 0, .int .u64 0, .int .i64 0, .slice a1 r.nums.length k1]) := HP6.out.call hb7
          have HT7 : Hid (OwG cL 38 1 w7 (wo.heap.size + 2) (.slice a7 (j + 1) k7) (tq ++ [((.slice a6 xs.length k6 : Value), xs)])) := ho7
          have HTQ7 : Hid (∀ q ∈ tq ++ [((.slice a6 xs.length k6 : Value), xs)], OwG cV 65 3 w7 0 q.1 q.2) := fun q hq => (HTQ6.out q hq).kept hk7 (by decide)
          have HNn7 : Hid (OwG cI 3 1 w7 0 (.slice a1 r.nums.length k1) r.nums) := HNn6.out.kept hk7 (by decide)
          have HMm7 : Hid (OwG cS 9 1 w7 0 (.slice a4 r.names.length k4) r.names) := HMm6.out.kept hk7 (by decide)
          have HL7 : Hid (∀ _ : Unit, (tq ++ [((.slice a6 xs.length k6 : Value), xs)]).length = j + 1) := fun _ => hl7
          clear ho7 hb7 hk7 hl7 HP6 HT6 HTQ6 HNn6 HMm6
          have f6 := HP7.out.free 6
          have g6 : w7.cell? ⟨wo.heap.size + 1, 6, none⟩ = some (.slice ta j tc) := HP7.out.dell 6
          have HP8 : Hid (QS wo (w7.setCell ⟨wo.heap.size + 1, 6, none⟩ (.slice a7 (j + 1) k7)) #[.int .i64 r.cmd, .int .i64 r.kind, .int .i64 r.who, .int .i64 r.code, .int .i64 r.rcode, .slice na r.names.length nc, .slice (some ⟨b6, o6, none⟩) r.rows.length rc, .int .i64 r.count, .int .u64 r.stamp, .int .i64 r.fin, .slice ma r.nums.length mc] #[.int .i64 r.cmd, .int .i64 r.kind, .int .i64 r.who, .int .i64 r.code, .int .i64 r.rcode, .slice a4 r.names.length k4, .slice a7 (j + 1) k7, .int .i64 0, .int .u64 0, .int .i64 0, .slice a1 r.nums.length k1]) := HP7.out.set 6 _
          go_wp2
          go_roundw
          case rel => exact ⟨j + 1, _, a7, k7, by omega, by go_num, HL7.out (), HP8.out, HT7.out.set (p := ⟨wo.heap.size + 1, 6, none⟩) (by show wo.heap.size + 1 < wo.heap.size + 2; omega) _, HNw.out _ rfl, fun q hq => (HTQ7.out q hq).kept (HP7.out.kp 6 _) (by decide), HNn7.out.kept (HP7.out.kp 6 _) (by decide), HMm7.out.kept (HP7.out.kp 6 _) (by decide)⟩
          case measure => simp [intOf]; omega
        · have hkj : ¬ (j : Int) < (r.rows.length : Int) := by omega
          have hje : j = r.rows.length := by omega
          subst hje
          have HRO : Hid (RpOwn wr ((r, .slice a4 r.names.length k4, .slice ta r.rows.length tc, .slice a1 r.nums.length k1) : RPV)) := ⟨HMm.out, ⟨tq, by rw [HTM.out, List.take_length], HT.out.down (Nat.zero_le _), HTQ.out⟩, HNn.out⟩
          clear HT HTM HTL HTQ HNn HMm HRL
          have x7 : wr.cell? ⟨wo.heap.size, 7, none⟩ = some (.int .i64 r.count) := HPj.out.cell 7
          have g7 : wr.cell? ⟨wo.heap.size + 1, 7, none⟩ = some (.int .i64 0) := HPj.out.dell 7
          have f7 := HPj.out.free 7
          have x6 : wr.cell? ⟨wo.heap.size, 6, none⟩ = some (.slice ra r.rows.length rc) := HPj.out.cell 6
          have HPa : Hid (QS wo (wr.setCell ⟨wo.heap.size + 1, 7, none⟩ (.int .i64 r.count)) #[.int .i64 r.cmd, .int .i64 r.kind, .int .i64 r.who, .int .i64 r.code, .int .i64 r.rcode, .slice na r.names.length nc, .slice ra r.rows.length rc, .int .i64 r.count, .int .u64 r.stamp, .int .i64 r.fin, .slice ma r.nums.length mc] #[.int .i64 r.cmd, .int .i64 r.kind, .int .i64 r.who, .int .i64 r.code, .int .i64 r.rcode, .slice a4 r.names.length k4, .slice ta r.rows.length tc, .int .i64 r.count, .int .u64 0, .int .i64 0, .slice a1 r.nums.length k1]) := HPj.out.set 7 _
          have HRa : Hid (RpOwn (wr.setCell ⟨wo.heap.size + 1, 7, none⟩ (.int .i64 r.count)) ((r, .slice a4 r.names.length k4, .slice ta r.rows.length tc, .slice a1 r.nums.length k1) : RPV)) := HRO.out.kept (HPj.out.kp 7 _)
          have x8 : (wr.setCell ⟨wo.heap.size + 1, 7, none⟩ (.int .i64 r.count)).cell? ⟨wo.heap.size, 8, none⟩ = some (.int .u64 r.stamp) := HPa.out.cell 8
          have g8 : (wr.setCell ⟨wo.heap.size + 1, 7, none⟩ (.int .i64 r.count)).cell? ⟨wo.heap.size + 1, 8, none⟩ = some (.int .u64 0) := HPa.out.dell 8
          have f8 := HPa.out.free 8
          have HPb : Hid (QS wo ((wr.setCell ⟨wo.heap.size + 1, 7, none⟩ (.int .i64 r.count)).setCell ⟨wo.heap.size + 1, 8, none⟩ (.int .u64 r.stamp)) #[.int .i64 r.cmd, .int .i64 r.kind, .int .i64 r.who, .int .i64 r.code, .int .i64 r.rcode, .slice na r.names.length nc, .slice ra r.rows.length rc, .int .i64 r.count, .int .u64 r.stamp, .int .i64 r.fin, .slice ma r.nums.length mc] #[.int .i64 r.cmd, .int .i64 r.kind, .int .i64 r.who, .int .i64 r.code, .int .i64 r.rcode, .slice a4 r.names.length k4, .slice ta r.rows.length tc, .int .i64 r.count, .int .u64 r.stamp, .int .i64 0, .slice a1 r.nums.length k1]) := HPa.out.set 8 _
          have HRb : Hid (RpOwn ((wr.setCell ⟨wo.heap.size + 1, 7, none⟩ (.int .i64 r.count)).setCell ⟨wo.heap.size + 1, 8, none⟩ (.int .u64 r.stamp)) ((r, .slice a4 r.names.length k4, .slice ta r.rows.length tc, .slice a1 r.nums.length k1) : RPV)) := HRa.out.kept (HPa.out.kp 8 _)
          have x9 : ((wr.setCell ⟨wo.heap.size + 1, 7, none⟩ (.int .i64 r.count)).setCell ⟨wo.heap.size + 1, 8, none⟩ (.int .u64 r.stamp)).cell? ⟨wo.heap.size, 9, none⟩ = some (.int .i64 r.fin) := HPb.out.cell 9
          have g9 : ((wr.setCell ⟨wo.heap.size + 1, 7, none⟩ (.int .i64 r.count)).setCell ⟨wo.heap.size + 1, 8, none⟩ (.int .u64 r.stamp)).cell? ⟨wo.heap.size + 1, 9, none⟩ = some (.int .i64 0) := HPb.out.dell 9
          have f9 := HPb.out.free 9
          have HPc : Hid (QS wo (((wr.setCell ⟨wo.heap.size + 1, 7, none⟩ (.int .i64 r.count)).setCell ⟨wo.heap.size + 1, 8, none⟩ (.int .u64 r.stamp)).setCell ⟨wo.heap.size + 1, 9, none⟩ (.int .i64 r.fin)) #[.int .i64 r.cmd, .int .i64 r.kind, .int .i64 r.who, .int .i64 r.code, .int .i64 r.rcode, .slice na r.names.length nc, .slice ra r.rows.length rc, .int .i64 r.count, .int .u64 r.stamp, .int .i64 r.fin, .slice ma r.nums.length mc] #[.int .i64 r.cmd, .int .i64 r.kind, .int .i64 r.who, .int .i64 r.code, .int .i64 r.rcode, .slice a4 r.names.length k4, .slice ta r.rows.length tc, .int .i64 r.count, .int .u64 r.stamp, .int .i64 r.fin, .slice a1 r.nums.length k1]) := HPb.out.set 9 _
          have HRc : Hid (RpOwn (((wr.setCell ⟨wo.heap.size + 1, 7, none⟩ (.int .i64 r.count)).setCell ⟨wo.heap.size + 1, 8, none⟩ (.int .u64 r.stamp)).setCell ⟨wo.heap.size + 1, 9, none⟩ (.int .i64 r.fin)) ((r, .slice a4 r.names.length k4, .slice ta r.rows.length tc, .slice a1 r.nums.length k1) : RPV)) := HRb.out.kept (HPb.out.kp 9 _)
          have z0 : (((wr.setCell ⟨wo.heap.size + 1, 7, none⟩ (.int .i64 r.count)).setCell ⟨wo.heap.size + 1, 8, none⟩ (.int .u64 r.stamp)).setCell ⟨wo.heap.size + 1, 9, none⟩ (.int .i64 r.fin)).cell? ⟨wo.heap.size + 1, 0, none⟩ = some (.int .i64 r.cmd) := HPc.out.dell 0
          have z1 : (((wr.setCell ⟨wo.heap.size + 1, 7, none⟩ (.int .i64 r.count)).setCell ⟨wo.heap.size + 1, 8, none⟩ (.int .u64 r.stamp)).setCell ⟨wo.heap.size + 1, 9, none⟩ (.int .i64 r.fin)).cell? ⟨wo.heap.size + 1, 1, none⟩ = some (.int .i64 r.kind) := HPc.out.dell 1
          have z2 : (((wr.setCell ⟨wo.heap.size + 1, 7, none⟩ (.int .i64 r.count)).setCell ⟨wo.heap.size + 1, 8, none⟩ (.int .u64 r.stamp)).setCell ⟨wo.heap.size + 1, 9, none⟩ (.int .i64 r.fin)).cell? ⟨wo.heap.size + 1, 2, none⟩ = some (.int .i64 r.who) := HPc.out.dell 2
          have z3 : (((wr.setCell ⟨wo.heap.size + 1, 7, none⟩ (.int .i64 r.count)).setCell ⟨wo.heap.size + 1, 8, none⟩ (.int .u64 r.stamp)).setCell ⟨wo.heap.size + 1, 9, none⟩ (.int .i64 r.fin)).cell? ⟨wo.heap.size + 1, 3, none⟩ = some (.int .i64 r.code) := HPc.out.dell 3
          have z4 : (((wr.setCell ⟨wo.heap.size + 1, 7, none⟩ (.int .i64 r.count)).setCell ⟨wo.heap.size + 1, 8, none⟩ (.int .u64 r.stamp)).setCell ⟨wo.heap.size + 1, 9, none⟩ (.int .i64 r.fin)).cell? ⟨wo.heap.size + 1, 4, none⟩ = some (.int .i64 r.rcode) := HPc.out.dell 4
          have z5 : (((wr.setCell ⟨wo.heap.size + 1, 7, none⟩ (.int .i64 r.count)).setCell ⟨wo.heap.size + 1, 8, none⟩ (.int .u64 r.stamp)).setCell ⟨wo.heap.size + 1, 9, none⟩ (.int .i64 r.fin)).cell? ⟨wo.heap.size + 1, 5, none⟩ = some (.slice a4 r.names.length k4) := HPc.out.dell 5
          have z6 : (((wr.setCell ⟨wo.heap.size + 1, 7, none⟩ (.int .i64 r.count)).setCell ⟨wo.heap.size + 1, 8, none⟩ (.int .u64 r.stamp)).setCell ⟨wo.heap.size + 1, 9, none⟩ (.int .i64 r.fin)).cell? ⟨wo.heap.size + 1, 6, none⟩ = some (.slice ta r.rows.length tc) := HPc.out.dell 6
          have z7 : (((wr.setCell ⟨wo.heap.size + 1, 7, none⟩ (.int .i64 r.count)).setCell ⟨wo.heap.size + 1, 8, none⟩ (.int .u64 r.stamp)).setCell ⟨wo.heap.size + 1, 9, none⟩ (.int .i64 r.fin)).cell? ⟨wo.heap.size + 1, 7, none⟩ = some (.int .i64 r.count) := HPc.out.dell 7
          have z8 : (((wr.setCell ⟨wo.heap.size + 1, 7, none⟩ (.int .i64 r.count)).setCell ⟨wo.heap.size + 1, 8, none⟩ (.int .u64 r.stamp)).setCell ⟨wo.heap.size + 1, 9, none⟩ (.int .i64 r.fin)).cell? ⟨wo.heap.size + 1, 8, none⟩ = some (.int .u64 r.stamp) := HPc.out.dell 8
          have z9 : (((wr.setCell ⟨wo.heap.size + 1, 7, none⟩ (.int .i64 r.count)).setCell ⟨wo.heap.size + 1, 8, none⟩ (.int .u64 r.stamp)).setCell ⟨wo.heap.size + 1, 9, none⟩ (.int .i64 r.fin)).cell? ⟨wo.heap.size + 1, 9, none⟩ = some (.int .i64 r.fin) := HPc.out.dell 9
          have z10 : (((wr.setCell ⟨wo.heap.size + 1, 7, none⟩ (.int .i64 r.count)).setCell ⟨wo.heap.size + 1, 8, none⟩ (.int .u64 r.stamp)).setCell ⟨wo.heap.size + 1, 9, none⟩ (.int .i64 r.fin)).cell? ⟨wo.heap.size + 1, 10, none⟩ = some (.slice a1 r.nums.length k1) := HPc.out.dell 10
          clear HPa HPb HRa HRb HRO
          go_wp2_with (at_builtin; refine hideG ?_)
          change wpList _ _ _ _ _ _
          clear x6 x7 x8 x9 g7 g8 g9 f7 f8 f9 z0 z1 z2 z3 z4 z5 z6 z7 z8 z9 z10
          have hS9 : (((wr.setCell ⟨wo.heap.size + 1, 7, none⟩ (.int .i64 r.count)).setCell ⟨wo.heap.size + 1, 8, none⟩ (.int .u64 r.stamp)).setCell ⟨wo.heap.size + 1, 9, none⟩ (.int .i64 r.fin)).heap.size = wr.heap.size := by simp only [World.size_setCell]
          generalize (((wr.setCell ⟨wo.heap.size + 1, 7, none⟩ (.int .i64 r.count)).setCell ⟨wo.heap.size + 1, 8, none⟩ (.int .u64 r.stamp)).setCell ⟨wo.heap.size + 1, 9, none⟩ (.int .i64 r.fin)) = W9 at *
          refine app_one (cs := cR) (by rfl) _ _ 23 36 (by rfl) Tryd.underlying23 infoRs rfl (by omega) (fun _ => rfl) w.heap.size _ qs ((r, .slice a4 r.names.length k4, .slice ta r.rows.length tc, .slice a1 r.nums.length k1) : RPV) (HO.out.later HPc.out.bel) (by rfl) wr.heap.size hS9.symm (by rfl) (fun u hu => by simp [cR] at hu; rcases hu with rfl | rfl | rfl | rfl | rfl | rfl | rfl | rfl | rfl | rfl | rfl <;> rfl) _ (by rfl) (by rw [HQL.out ()]; unfold maxLen; omega) (by rw [HQL.out ()]; omega) (by have := HPc.out.lt; omega) ?_
          intro v10 w10 ho10 hb10 hk10
          obtain ⟨a10, k10, rfl⟩ := ho10.form
          have hl10 : (qs ++ [((r, .slice a4 r.names.length k4, .slice ta r.rows.length tc, .slice a1 r.nums.length k1) : RPV)]).length = qs.length + 1 := by rw [List.length_append]; rfl
          rw [hl10] at ho10 ⊢
          have HO10 : Hid (OwG cR 36 11 w10 w.heap.size (.slice a10 (qs.length + 1) k10) (qs ++ [((r, .slice a4 r.names.length k4, .slice ta r.rows.length tc, .slice a1 r.nums.length k1) : RPV)])) := ho10
          clear hl10
          have HB10 : Hid (Below w.heap.size w w10) := (HB.out.trans (HPc.out.bel.mono hsz)).trans hb10
          have HQ10 : Hid (∀ p ∈ qs ++ [((r, .slice a4 r.names.length k4, .slice ta r.rows.length tc, .slice a1 r.nums.length k1) : RPV)], RpOwn w10 p) := by
            show ∀ p ∈ qs ++ [((r, .slice a4 r.names.length k4, .slice ta r.rows.length tc, .slice a1 r.nums.length k1) : RPV)], RpOwn w10 p
            intro p hp
            rcases List.mem_append.1 hp with hp | hp
            · exact ((HQO.out p hp).kept (KpT.below HPc.out.bel)).kept hk10
            · rw [List.mem_singleton.1 hp]
              exact HRc.out.kept hk10
          clear ho10 hb10 hk10 HPc HRc
          go_wp2
          go_roundw
          case rel => exact ⟨k + 1, _, by omega, by go_num, HO10.out, HNx.out _ rfl, HQ10.out, HB10.out⟩
          case measure => simp [intOf]; omega
    · have hki : ¬ (k : Int) < (ps.length : Int) := by omega
      have hke : k = ps.length := by omega
      have HQE : Hid (qs.map (·.1) = ps.map (·.1)) := by
        show qs.map (·.1) = ps.map (·.1)
        have := HQ.out
        rw [hke, List.take_length] at this
        exact this
      have HQS : Hid (SeesP wr wr.heap.size (.slice ca qs.length cc) (ps.map (·.1))) := by
        show SeesP wr wr.heap.size (.slice ca qs.length cc) (ps.map (·.1))
        rw [← HQE.out]
        exact reps_see HO.out.in (fun p hp => (HQO.out p hp).see)
      have HVl : Hid (InG cR wr w.heap.size (.slice a ps.length cap) ps) := HV.out.later HB.out
      have HSl : Hid (∀ p ∈ ps, RpSee wr w.heap.size p) := fun p hp => (HS.out p hp).later HB.out
      clear HQ HQE hke HO HQO HQL HV HS
      go_wp2_with (at_builtin; refine hideG ?_)
      change wpList _ _ _ _ _ _
      refine app_all (cs := cR) (by rfl) _ _ 22 32 (by rfl) Tryd.underlying22 infoRa rfl (by omega) (fun _ => rfl) (by rfl) _ ps w.heap.size (by rfl) HVl.out (fun y hy u hu => cR_one (HSl.out y hy) u hu) (by unfold maxLen; omega) (by omega) ?_
      intro v1 w1 ho1 hb1
      obtain ⟨a1, k1, rfl⟩ := ho1.form
      have HO1 : Hid (OwG cR 32 11 w1 wr.heap.size (.slice a1 ps.length k1) ps) := ho1
      have HB1 : Hid (Below wr.heap.size wr w1) := hb1
      have hs1 := hb1.size
      clear ho1 hb1
      go_wp2_with (at_builtin; refine hideG ?_)
      change wpList _ _ _ _ _ _
      refine app_one (cs := cR) (by rfl) _ _ 22 32 (by rfl) Tryd.underlying22 infoRa rfl (by omega) (fun _ => rfl) wr.heap.size _ ps c77 HO1.out (by rfl) w1.heap.size rfl (by rfl) (fun u hu => by simp [cR, c77] at hu; rcases hu with rfl | rfl | rfl | rfl | rfl | rfl | rfl | rfl | rfl | rfl | rfl <;> rfl) _ (by rfl) (by unfold maxLen; omega) (by omega) hs1 ?_
      intro v2 w2 ho2 hb2 _
      obtain ⟨g2, k2, rfl, hg2, hlt2, hk2⟩ := ho2.some (by simp)
      have hl2 : (ps ++ [c77]).length = ps.length + 1 := by rw [List.length_append]; rfl
      have hin := ho2.in
      rw [hl2] at hk2 hin ⊢
      have hfr := hin.front
      have HBw2 : Hid (Below wr.heap.size wr w2) := HB1.out.trans hb2
      have hs2 := HBw2.out.size
      have HA2 : Hid (SeesP w2 w2.heap.size (.slice (some ⟨g2, 0, none⟩) ps.length k2) (ps.map (·.1))) := reps_see hfr (fun p hp => ((HSl.out p hp).later (HBw2.out.mono hsz)).up (Nat.le_trans hsz hs2))
      have HV2 : Hid (SeesP w2 w2.heap.size (.slice a ps.length cap) (ps.map (·.1))) := (reps_see (HVl.out.later (HBw2.out.mono hsz)) (fun p hp => (HSl.out p hp).later (HBw2.out.mono hsz))).up (Nat.le_trans hsz hs2)
      have HQ2 : Hid (SeesP w2 w2.heap.size (.slice ca qs.length cc) (ps.map (·.1))) := (HQS.out.later HBw2.out).up hs2
      have hlast := (hin.cell (n := 11) (fun _ => rfl) ps.length (by rw [hl2]; omega) (by omega))
      rw [List.getElem_append_right (Nat.le_refl _)] at hlast
      simp only [Nat.sub_self, List.getElem_cons_zero] at hlast
      obtain ⟨b3, o3, he3, _, hc3⟩ := hlast
      injection he3 with he3
      injection he3 with e1 e2
      subst e1 e2
      have d0 := hc3 0 (by omega)
      have d1 := hc3 1 (by omega)
      rw [Nat.add_zero] at d0
      have HD : Hid (w2.cell? ⟨g2, 0 + ps.length * 11, none⟩ = some (.int .i64 77) ∧ w2.cell? ⟨g2, 0 + ps.length * 11 + 1, none⟩ = some (.int .i64 77)) := ⟨d0, d1⟩
      have hlm : (ps.map (·.1)).length = ps.length := List.length_map _
      have hrk : ∀ i (h : i < (ps.map (·.1)).length), ROK (ps.map (·.1))[i] := fun i h => by rw [List.getElem_map]; exact HR.out _ (List.getElem_mem _)
      have HBt : Hid (Below w.heap.size w w2) := HB.out.trans (HBw2.out.mono hsz)
      have HPT : Hid (∀ _ : Unit, _) := fun _ => PrintT _ (ps.map (·.1)) w2.heap.size w2 (Nat.le_refl _) HA2.out (by rw [hlm]; exact hn) hrk HL.out (HG.out.later HBt.out HG.out.few)
      have HPR : Hid (∀ W : World, Below w2.heap.size w2 W → Calls Tryd.prog 6 #[.slice ca qs.length cc] W fun e w' => e = .returned (.string (tx (printL (ps.map (·.1))))) ∧ Below W.heap.size W w') := fun W hW => PrintR _ (ps.map (·.1)) w2.heap.size W hW.size (HQ2.out.later hW) (by rw [hlm]; exact hn) hrk HL.out
      have HS1 : Hid (∀ W : World, Below w2.heap.size w2 W → Calls Tryd.prog 7 #[.slice a ps.length cap, .slice ca qs.length cc] W fun e w' => e = .returned (.bool true) ∧ Below W.heap.size W w') := fun W hW => sameReplL _ _ (ps.map (·.1)) w2.heap.size W hW.size (HV2.out.later hW) (HQ2.out.later hW) (by rw [hlm]; exact hn) hrk
      have HS2 : Hid (∀ W : World, Below w2.heap.size w2 W → Calls Tryd.prog 7 #[.slice (some ⟨g2, 0, none⟩) ps.length k2, .slice ca qs.length cc] W fun e w' => e = .returned (.bool true) ∧ Below W.heap.size W w') := fun W hW => sameReplL _ _ (ps.map (·.1)) w2.heap.size W hW.size (HA2.out.later hW) (HQ2.out.later hW) (by rw [hlm]; exact hn) hrk
      clear ho2 hb2 hin hfr hc3 d0 d1 hrk hlm HA2 HV2 HQ2 HQS HVl HSl HO1 HB1 HBw2
      generalize tx (printL (ps.map (·.1))) = T at *
      have hk3 : (ps.length : Int) ≤ (k2 : Int) := by omega
      have hk4 : (ps.length : Int) < ((ps.length + 1 : Nat) : Int) := by omega
      go_wp2_with fail
      refine (HPT.out ()).mono ?_
      rintro e w3 ⟨rfl, hb3⟩
      have HB3 : Hid (Below w2.heap.size w2 w3) := hb3
      clear hb3 HPT
      go_wp2_with fail
      refine (HPR.out _ HB3.out).mono ?_
      rintro e w4 ⟨rfl, hb4⟩
      have HB4 : Hid (Below w2.heap.size w2 w4) := HB3.out.trans (hb4.mono HB3.out.size)
      clear hb4 HPR
      go_wp2_with fail
      refine (HS1.out _ HB4.out).mono ?_
      rintro e w5 ⟨rfl, hb5⟩
      have HB5 : Hid (Below w2.heap.size w2 w5) := HB4.out.trans (hb5.mono HB4.out.size)
      clear hb5
      go_wp2_with fail
      refine (HS2.out _ HB5.out).mono ?_
      rintro e w6 ⟨rfl, hb6⟩
      have HB6 : Hid (Below w2.heap.size w2 w6) := HB5.out.trans (hb6.mono HB5.out.size)
      clear hb6
      have d0 : w6.cell? ⟨g2, 0 + ps.length * 11, none⟩ = some (.int .i64 77) := (HB6.out.cell hlt2).trans HD.out.1
      have d1 : w6.cell? ⟨g2, 0 + ps.length * 11 + 1, none⟩ = some (.int .i64 77) := (HB6.out.cell hlt2).trans HD.out.2
      rw [Nat.zero_add] at d0 d1
      have HBe : Hid (Below w.heap.size w w6) := HBt.out.trans (HB6.out.mono (Nat.le_trans hsz hs2))
      go_wp2
      go_ret
      exact ⟨rfl, HBe.out⟩
end Go.Proofs.YtoomekcglniohaaDoor
