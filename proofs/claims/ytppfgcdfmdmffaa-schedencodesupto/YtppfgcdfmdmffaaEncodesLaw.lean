import Derived.Test.YtppfgcdfmdmffaaSchP10
namespace Go.Proofs.Ytppfgcdfmdmffaa
open Go.ChangeShapes Go.WideShapes Go.ChangeAt Go.RowKit
set_option linter.unusedVariables false

theorem ownP_empty (w : World) (B : Nat) (hB : B ≤ w.heap.size) : ownP (w.alloc (.cells #[] 32)) B (.slice (some ⟨w.heap.size, 0, none⟩) 0 0) [] := World.ownsRow_lit w #[] 0 hB (by unfold maxLen; omega) rfl
/-- A list behind a list of one's own. -/
theorem seen_cells {w : World} {ad : Addr} {us : List (Int × Int × Int)} (hs1 : ∀ i (hi : i < us.length), ∃ b off, (some ad : Option Addr) = some ⟨b, off, none⟩ ∧ w.cell? ⟨b, off + i * 3, none⟩ = some (.int .i64 us[i].1) ∧ w.cell? ⟨b, off + i * 3 + 1, none⟩ = some (.int .i64 us[i].2.1) ∧ w.cell? ⟨b, off + i * 3 + 2, none⟩ = some (.int .i64 us[i].2.2)) : ∀ j u, (cellsP us)[j]? = some u → w.cell? (ad.add j) = some u := by
  intro j u hj
  have hjl : j < us.length * 3 := by
    rcases Nat.lt_or_ge j (us.length * 3) with h | h
    · exact h
    · rw [List.getElem?_eq_none (by rw [cellsP_len]; exact h)] at hj; cases hj
  obtain ⟨b, off, e, c0, c1, c2⟩ := hs1 (j / 3) (by omega)
  injection e with e
  subst e
  have ea : (⟨b, off, none⟩ : Addr).add j = ⟨b, off + j, none⟩ := by unfold Addr.add; split <;> simp_all
  obtain ⟨d0, d1, d2⟩ := cellsP_get us (j / 3) (by omega)
  rw [ea]
  rcases (show j % 3 = 0 ∨ j % 3 = 1 ∨ j % 3 = 2 by omega) with m | m | m
  · have e1 : off + j = off + j / 3 * 3 := by omega
    have e2 : j = j / 3 * 3 := by omega
    rw [e2] at hj; rw [e1, c0, ← d0]; exact hj
  · have e1 : off + j = off + j / 3 * 3 + 1 := by omega
    have e2 : j = j / 3 * 3 + 1 := by omega
    rw [e2] at hj; rw [e1, c1, ← d1]; exact hj
  · have e1 : off + j = off + j / 3 * 3 + 2 := by omega
    have e2 : j = j / 3 * 3 + 2 := by omega
    rw [e2] at hj; rw [e1, c2, ← d2]; exact hj
set_option maxRecDepth 100000 in
theorem app_seen {wr : World} {ops : Array Oper} {rest : List Oper} {o : Oper} {a : Act} {Q : Exit → Act → World → Prop} (hgd : o.guard = none) (s x : Operand)
    (ho : o.op = .call { callee := .builtin .append, args := #[s, x], argTypes := #[22, 22] })
    (B : Nat) (v : Value) (vs : List (Int × Int × Int)) (hown : ownP wr B v vs) (hs : a.eval s = v) (B' : Nat) (y : Value) (us : List (Int × Int × Int)) (hy : SeesP wr B' y us) (hcn : ∀ cap, y = .slice none 0 cap → cap = 0) (hx : a.eval x = y)
    (hlen : (vs.length + us.length) * 24 ≤ 140737488355328) (hB : B ≤ wr.heap.size)
    (h : ∀ v' w', ownP w' B v' (vs ++ us) → Below B wr w' → wpList Try.prog ops Q rest (a.put o.dst v') w') :
    wpList Try.prog ops Q (o :: rest) a wr := by
  obtain ⟨i0, hi, hz0, hz1, hz2⟩ := info_parts infoP
  obtain ⟨ao, cap, rfl, hl1, hc1, hs1⟩ := hy
  cases ao with
  | none =>
    have hn : us = [] := by
      cases us with
      | nil => rfl
      | cons p r => obtain ⟨b, off, e, _⟩ := hs1 0 (by simp); cases e
    subst hn
    rw [List.append_nil] at h
    have hc : cap = 0 := hcn cap rfl
    subst hc
    exact wpList_append_own_none hgd s x 22 ho B 32 i0 3 Try.underlying22 hi v vs.length _ hs hown hx (h v wr hown (Below.refl _ _))
  | some ad =>
    refine wpList_append_own _ hgd s x 22 ho B 32 i0 (.agg #[.int .i64 0, .int .i64 0, .int .i64 0]) 3 24 Try.underlying22 hi hz0 hz1 hz2 rfl (by decide) v vs.length _ hs hown
      ad us.length cap (cellsP us) hx (cellsP_len us) ?_ ?_ (by unfold maxLen; omega) (by omega) hB ?_
    · exact seen_cells fun i hi => by obtain ⟨b, off, e, hb, c⟩ := hs1 i hi; exact ⟨b, off, e, c⟩
    · intro u hu
      unfold cellsP at hu
      obtain ⟨p, _, hp⟩ := List.mem_flatMap.1 hu
      simp [cellP] at hp
      rcases hp with rfl | rfl | rfl <;> rfl
    · intro v' w' hown' hgrow _
      refine h v' w' ?_ ?_
      · unfold ownP; rw [List.length_append, show cellsP (vs ++ us) = cellsP vs ++ cellsP us from by simp [cellsP]]; exact hown'
      · exact (Below.refl _ _).grown hgrow hB (fun k hk => (World.ownsRow.lt hown k hk).1)
theorem app_pick2 {wr : World} {ops : Array Oper} {rest : List Oper} {o : Oper} {a : Act} {Q : Exit → Act → World → Prop} (hgd : o.guard = none) (s x : Operand)
    (ho : o.op = .call { callee := .builtin .append, args := #[s, x], argTypes := #[22, 22] })
    (B : Nat) (v : Value) (vs : List (Int × Int × Int)) (c d : Int × Int × Int) (hown : ownP wr B v vs) (hs : a.eval s = v) (g : Nat) (hg : g = wr.heap.size) (hx : a.eval x = .slice (some ⟨g, 0, none⟩) 2 2)
    (hlen : (vs.length + 2) * 24 ≤ 140737488355328) (hB : B ≤ wr.heap.size)
    (h : ∀ v' w', ownP w' B v' (vs ++ [c, d]) → Below B wr w' → wpList Try.prog ops Q rest (a.put o.dst v') w') :
    wpList Try.prog ops Q (o :: rest) a (wr.alloc (.cells #[.int .i64 c.1, .int .i64 c.2.1, .int .i64 c.2.2, .int .i64 d.1, .int .i64 d.2.1, .int .i64 d.2.2] 32)) := by
  subst hg
  obtain ⟨i0, hi, hz0, hz1, hz2⟩ := info_parts infoP
  refine wpList_append_own _ hgd s x 22 ho B 32 i0 (.agg #[.int .i64 0, .int .i64 0, .int .i64 0]) 3 24 Try.underlying22 hi hz0 hz1 hz2 rfl (by decide) v vs.length _ hs (World.ownsRow.alloc hown _)
    ⟨wr.heap.size, 0, none⟩ 2 2 (cellP c ++ cellP d) hx rfl ?_ ?_ (by unfold maxLen; omega) (by omega) (by simp; omega) ?_
  · intro j u hj
    match j, hj with
    | 0, hj => simp [cellP] at hj; subst hj; simp [Addr.add]
    | 1, hj => simp [cellP] at hj; subst hj; simp [Addr.add]
    | 2, hj => simp [cellP] at hj; subst hj; simp [Addr.add]
    | 3, hj => simp [cellP] at hj; subst hj; simp [Addr.add]
    | 4, hj => simp [cellP] at hj; subst hj; simp [Addr.add]
    | 5, hj => simp [cellP] at hj; subst hj; simp [Addr.add]
  · intro u hu; simp [cellP] at hu; rcases hu with rfl | rfl | rfl | rfl | rfl | rfl <;> rfl
  · intro v' w' hown' hgrow _
    refine h v' w' ?_ ?_
    · have : (vs ++ [c, d]).length = vs.length + 2 := by simp
      unfold ownP; rw [this, show cellsP (vs ++ [c, d]) = cellsP vs ++ (cellP c ++ cellP d) from by simp [cellsP]]; exact hown'
    · exact ((Below.refl _ _).alloc hB _).grown hgrow (by simp; omega) (fun k hk => (World.ownsRow.lt hown k hk).1)
theorem neq_self (c : Int) : (c != c) = false := by simp
theorem ownP.keep {w w' : World} {B g n cap : Nat} {vs : List (Int × Int × Int)} (h : ownP w B (.slice (some ⟨g, 0, none⟩) n cap) vs) (hk : w'.heap[g]? = w.heap[g]?) : ownP w' B (.slice (some ⟨g, 0, none⟩) n cap) vs := by
  rcases h with ⟨h1, ⟨e, _⟩ | ⟨g', cap', cur, e, hb, hg, hr⟩⟩
  · simp at e
  · have he := e
    simp only [Value.slice.injEq, Option.some.injEq, Addr.mk.injEq, and_true] at he
    obtain ⟨rfl, _, _⟩ := he
    exact ⟨h1, .inr ⟨g, cap', cur, e, hb, by rw [hk]; exact hg, hr⟩⟩
theorem take_set {F : List (Int × Int × Int)} {k : Nat} (h : k < F.length) (x : Int × Int × Int) : (F.set k x).take (k + 1) = F.take k ++ [x] := by
  have e : F.set k x = (F.take k ++ [x]) ++ F.drop (k + 1) := by rw [List.set_eq_take_append_cons_drop, if_pos h, List.append_assoc, List.singleton_append]
  rw [e]
  exact List.take_left' (by simp; omega)
theorem shape2 {w : World} {B : Nat} {v : Value} {ps : List (Int × Int × Int)} {c d : Int × Int × Int} (h : ownP w B v (ps ++ [c, d])) : ∃ g cap, v = .slice (some ⟨g, 0, none⟩) (ps.length + 2) cap ∧ ps.length + 2 ≤ cap ∧ B ≤ g ∧ g < w.heap.size := by
  have hl : (ps ++ [c, d]).length = ps.length + 2 := by simp
  rcases h.2 with ⟨e, e2⟩ | ⟨g, cap, cur, e, hb, hg, hnc, _⟩
  · rw [hl] at e2; omega
  · rw [hl] at e hnc
    exact ⟨g, cap, e, hnc, hb, (Array.getElem?_eq_some_iff.1 hg).1⟩
theorem encA_form (vs : List (Int × Int × Int)) : ∃ X c, encA vs = .tuple #[.string X, .int .i64 c] ∧ 0 ≤ c ∧ c ≤ 33 := by
  unfold encA
  split
  · exact ⟨_, _, rfl, by omega, by omega⟩
  · exact ⟨_, _, rfl, by omega, by omega⟩
set_option maxRecDepth 100000 in
set_option maxHeartbeats 6400000 in
theorem encodes_walk (a : Value) (ps : List (Int × Int × Int)) (w : World) (ha : SeesP w w.heap.size a ps) (hl : ps.length ≤ 1048576) (hp : ∀ p ∈ ps, wfP p) (hcn : ∀ cap, a = .slice none 0 cap → cap = 0) :
    Calls Try.prog 5 #[a] w fun e w' => e = .returned (.bool true) ∧ Below w.heap.size w w' := by
  have HA : Hid (SeesP w w.heap.size a ps) := ha
  obtain ⟨ao, cap, rfl, hl1, hc1, hs1⟩ := ha
  have HS : Hid _ := hs1
  have HCN : Hid (∀ c, Value.slice ao ps.length cap = .slice none 0 c → c = 0) := hcn
  clear hcn
  clear hs1
  have HP : Hid (∀ p ∈ ps, wfP p) := hp
  have HL : Hid (ps.length ≤ 1048576) := hl
  clear hp
  have HE0 : Hid (ownP (w.alloc (.cells #[] 32)) w.heap.size (.slice (some ⟨w.heap.size, 0, none⟩) 0 0) []) := ownP_empty w w.heap.size (Nat.le_refl _)
  have HB0 : Hid (Below w.heap.size w (w.alloc (.cells #[] 32))) := (Below.refl _ _).alloc (Nat.le_refl _) _
  go_enter Try.func5, Try.ntmps5
  go_wp2_with (at_builtin; first | (refine app_seen (by rfl) _ _ (by rfl) w.heap.size _ [] HE0.out (by rfl) w.heap.size _ ps (HA.out.later HB0.out) HCN.out (by rfl) (by simp; omega) HB0.out.size ?_; intro v1 w1 hown1 hbel1; have HO1 : Hid (ownP w1 w.heap.size v1 ps) := hown1; have HB1 : Hid (Below w.heap.size w w1) := HB0.out.trans hbel1; clear hown1 hbel1) | (refine app_pick2 (by rfl) _ _ (by rfl) w.heap.size _ ps (77, 0, 0) (78, 0, 0) HO1.out (by rfl) _ (by rfl) (by rfl) (by omega) HB1.out.size ?_; intro v2 w2 hown2 hbel2; have HO2 : Hid (ownP w2 w.heap.size v2 (ps ++ [(77, 0, 0), (78, 0, 0)])) := hown2; have HB2 : Hid (Below w.heap.size w w2) := HB1.out.trans hbel2; clear hown2 hbel2 HO1 HB1; obtain ⟨g, capF, rfl, hcf, hgB, hgl⟩ := shape2 HO2.out))
  obtain ⟨X, c, hX, hX0, hX1⟩ := encA_form ps
  have hlen2 : (ps ++ [(77, 0, 0), (78, 0, 0)]).length = ps.length + 2 := by simp
  have HN : Hid _ := hlen2
  have p1 : (ps.length : Int) ≤ (capF : Int) := by omega
  have p2 : ps.length ≤ capF := by omega
  have p3 : (0 : Int) ≤ (ps.length : Int) := by omega
  have E2 : Hid (∀ _ : Unit, Calls Try.prog 8 #[.slice (some ⟨g, 0, none⟩) ps.length capF] w2 fun e w' => e = .returned (.tuple #[.string X, .int .i64 c]) ∧ Below w2.heap.size w2 w') := fun _ => (encode_any _ ps w2.heap.size w2 (Nat.le_refl _) (HO2.out.sees (us := ps) HN.out (by simp) (by omega) (by omega)) HP.out (by have := HL.out; omega)).mono fun e w' ⟨he, hb⟩ => ⟨by rw [he, hX], hb⟩
  have E3 : Hid (∀ W, Below w.heap.size w W → Calls Try.prog 12 #[.slice ao ps.length cap] W fun e w' => e = .returned (.tuple #[.string X, .int .i64 c]) ∧ Below W.heap.size W w') := fun W hW => (refEncode _ ps W.heap.size W (Nat.le_refl _) ((HA.out.later hW).mono hW.size) HP.out (by have := HL.out; omega)).mono fun e w' ⟨he, hb⟩ => ⟨by rw [he, hX], hb⟩
  clear hX hlen2 hl1 hc1 HE0 HB0
  go_wp2_with fail
  refine (E2.out ()).mono ?_
  rintro e w3 ⟨rfl, hb⟩
  have HB3 : Hid (Below w.heap.size w w3) := HB2.out.trans (hb.mono HB2.out.size)
  have HO3 : Hid (ownP w3 w.heap.size (.slice (some ⟨g, 0, none⟩) (ps.length + 2) capF) (ps ++ [(77, 0, 0), (78, 0, 0)])) := HO2.out.same fun k hk _ => hb.block k hk
  have hg3 : g < w3.heap.size := Nat.lt_of_lt_of_le hgl hb.size
  clear hb HB2 HO2 E2 hgl
  go_wp2_with fail
  refine (E3.out w3 HB3.out).mono ?_
  rintro e w4 ⟨rfl, hb⟩
  have HB4 : Hid (Below w.heap.size w w4) := HB3.out.trans (hb.mono HB3.out.size)
  have HO4 : Hid (ownP w4 w.heap.size (.slice (some ⟨g, 0, none⟩) (ps.length + 2) capF) (ps ++ [(77, 0, 0), (78, 0, 0)])) := HO3.out.same fun k hk _ => hb.block k hk
  have hg4 : g < w4.heap.size := Nat.lt_of_lt_of_le hg3 hb.size
  clear hb HB3 HO3 E3 hg3
  have SP : Hid (∀ _ : Unit, Calls Try.prog 9 #[.slice (some ⟨g, 0, none⟩) ps.length capF, .slice ao ps.length cap] w4 fun e w' => e = .returned (.bool true) ∧ Below w4.heap.size w4 w') := fun _ => (samePicks_any _ _ ps ps w4.heap.size w4 (Nat.le_refl _) (HO4.out.sees (us := ps) HN.out (by simp) (by omega) (by omega)) ((HA.out.later HB4.out).mono HB4.out.size)).mono fun e w' ⟨he, hb⟩ => ⟨by rw [he, decide_eq_true rfl], hb⟩
  have hcc := neq_self c
  go_wp2_with fail
  refine (SP.out ()).mono ?_
  rintro e w5 ⟨rfl, hb⟩
  have HB5 : Hid (Below w.heap.size w w5) := HB4.out.trans (hb.mono HB4.out.size)
  have HO5 : Hid (ownP w5 w.heap.size (.slice (some ⟨g, 0, none⟩) (ps.length + 2) capF) (ps ++ [(77, 0, 0), (78, 0, 0)])) := HO4.out.same fun k hk _ => hb.block k hk
  have hg5 : g < w5.heap.size := Nat.lt_of_lt_of_le hg4 hb.size
  clear hb HB4 HO4 SP hg4
  obtain ⟨t0, -, -, -⟩ := HO5.out.at HN.out ps.length (by omega)
  obtain ⟨u0, -, -, -⟩ := HO5.out.at HN.out (ps.length + 1) (by omega)
  have et : (ps ++ [((77 : Int), (0 : Int), (0 : Int)), (78, 0, 0)])[ps.length]'(by simp) = (77, 0, 0) := by simp
  have eu : (ps ++ [((77 : Int), (0 : Int), (0 : Int)), (78, 0, 0)])[ps.length + 1]'(by simp) = (78, 0, 0) := by simp
  rw [et] at t0
  rw [eu] at u0
  clear et eu hcc
  go_wp2_with fail
  clear t0 u0
  obtain ⟨M, hM⟩ : ∃ M, M = w5.heap.size := ⟨_, rfl⟩
  have HM : Hid (M = w5.heap.size) := hM
  have hgM : g < M := by omega
  have hwM : w.heap.size ≤ M := by omega
  clear hM hg5
  go_loopw [9, 10] (fun bk i wr => ∃ (k : Nat) (F : List (Int × Int × Int)), k ≤ ps.length ∧ i = .int .i64 (k : Int) ∧ F.length = ps.length + 2 ∧ F.take k = ps.reverse.take k ∧ ownP wr w.heap.size (.slice (some ⟨g, 0, none⟩) (ps.length + 2) capF) F ∧ ownP wr M bk (ps.reverse.take k) ∧ Below w.heap.size w wr ∧ M ≤ wr.heap.size) (fun _ i _ => ps.length - (intOf i).toNat)
  case atStart => exact ⟨0, _, by omega, rfl, HN.out, rfl, HO5.out, ownP_nil _ _, HB5.out, by rw [HM.out]; exact Nat.le_refl _⟩
  case round =>
    obtain ⟨k, F, hk, rfl, hF, hFt, hof, hob, hbel, hMr⟩ := hrel
    have HOF : Hid (ownP wr w.heap.size (.slice (some ⟨g, 0, none⟩) (ps.length + 2) capF) F) := hof
    have HOB : Hid (ownP wr M _ (ps.reverse.take k)) := hob
    have HB : Hid (Below w.heap.size w wr) := hbel
    have HFL : Hid (F.length = ps.length + 2) := hF
    have HFT : Hid (F.take k = ps.reverse.take k) := hFt
    clear hof hob hbel hF hFt HO5 HB5 HM
    by_cases h1 : k < ps.length
    · have hk2 : k < ps.length + 2 := by omega
      obtain ⟨z0, z1, z2, fz⟩ := HOF.out.at HFL.out k hk2
      have hF0 : k < F.length := by have := HFL.out; omega
      generalize hFk : F[k] = fk at z0 z1 z2
      clear hFk
      obtain ⟨q, hq⟩ : ∃ q, q = ps.length - 1 - k := ⟨_, rfl⟩
      have hql : q < ps.length := by omega
      have hqi : (ps.length : Int) - 1 - (k : Int) = (q : Int) := by omega
      obtain ⟨b1, o1, e1, hb1, x0, x1, x2⟩ := HS.out q hql
      have y0 := (HB.out.cell (p := ⟨b1, o1 + q * 3, none⟩) hb1).trans x0
      have y1 := (HB.out.cell (p := ⟨b1, o1 + q * 3 + 1, none⟩) hb1).trans x1
      have y2 := (HB.out.cell (p := ⟨b1, o1 + q * 3 + 2, none⟩) hb1).trans x2
      clear x0 x1 x2
      subst e1
      have f0 := fz (k * 3)
      have f1 := fz (k * 3 + 1)
      have f2 := fz (k * 3 + 2)
      have h1' : (k : Int) < (ps.length : Int) := by omega
      have h2' : (k : Int) < (ps.length : Int) + 2 := by omega
      have HT : Hid (ps.reverse.take (k + 1) = ps.reverse.take k ++ [ps[q]]) := by
        show _ = _
        have hr : k < ps.reverse.length := by simpa using h1
        rw [List.take_succ_eq_append_getElem hr]
        congr 2
        rw [List.getElem_reverse]
        congr 1
        omega
      have HP2 : Hid (ownP (((wr.setCell ⟨g, k * 3, none⟩ (.int .i64 ps[q].1)).setCell ⟨g, k * 3 + 1, none⟩ (.int .i64 ps[q].2.1)).setCell ⟨g, k * 3 + 2, none⟩ (.int .i64 ps[q].2.2)) w.heap.size (.slice (some ⟨g, 0, none⟩) (ps.length + 2) capF) (F.set k (ps[q].1, ps[q].2.1, ps[q].2.2))) := HOF.out.put HFL.out k hk2 ps[q].1 ps[q].2.1 ps[q].2.2
      have HB2 : Hid (∀ a b c, Below w.heap.size w (((wr.setCell ⟨g, k * 3, none⟩ a).setCell ⟨g, k * 3 + 1, none⟩ b).setCell ⟨g, k * 3 + 2, none⟩ c)) := fun a b c => ((HB.out.setCell (p := ⟨g, k * 3, none⟩) hgB _).setCell (p := ⟨g, k * 3 + 1, none⟩) hgB _).setCell (p := ⟨g, k * 3 + 2, none⟩) hgB _
      have HOB2 : Hid (∀ a b c, ownP (((wr.setCell ⟨g, k * 3, none⟩ a).setCell ⟨g, k * 3 + 1, none⟩ b).setCell ⟨g, k * 3 + 2, none⟩ c) M _ (ps.reverse.take k)) := fun a b c => ((HOB.out.same fun j hj hb => Below.heap_setCell _ _ _ _ (by show j ≠ g; omega)).same fun j hj hb => Below.heap_setCell _ _ _ _ (by show j ≠ g; omega)).same fun j hj hb => Below.heap_setCell _ _ _ _ (by show j ≠ g; omega)
      have HSZ : Hid (∀ a b c, (((wr.setCell ⟨g, k * 3, none⟩ a).setCell ⟨g, k * 3 + 1, none⟩ b).setCell ⟨g, k * 3 + 2, none⟩ c).heap.size = wr.heap.size) := fun a b c => by simp [World.setCell]
      have hal : ((ps.reverse.take k).length + 1) * 24 ≤ 140737488355328 := by rw [List.length_take, List.length_reverse]; omega
      have HQ : Hid (q = ps.length - 1 - k) := hq
      clear fz HOF HB HOB hq
      generalize ps[q] = pq at *
      obtain ⟨pa, pb, pc⟩ := pq
      simp only at y0 y1 y2
      go_wp2_with (at_builtin; refine app_pick (by rfl) _ _ (by rfl) M _ (ps.reverse.take k) (pa, pb, pc) (HOB2.out _ _ _) (by rfl) wr.heap.size (HSZ.out _ _ _).symm (by rfl) hal (by rw [HSZ.out]; exact hMr) ?_; intro v' w6 hown6 hbel6; have HO6 : Hid (ownP w6 M v' (ps.reverse.take k ++ [(pa, pb, pc)])) := hown6; have HB6 : Hid (Below M _ w6) := hbel6; clear hown6 hbel6)
      refine ⟨⟨k + 1, F.set k (pa, pb, pc), by omega, by go_num, by rw [List.length_set]; exact HFL.out, ?_, ?_, by rw [HT.out]; exact HO6.out, ?_, ?_⟩, ?_⟩
      · rw [HT.out, ← HFT.out]; exact take_set hF0 _
      · exact HP2.out.keep (HB6.out.block g hgM)
      · exact (HB2.out _ _ _).trans (HB6.out.mono hwM)
      · have := HB6.out.size; rw [HSZ.out] at this; omega
      · simp [intOf]; omega
    · have e : k = ps.length := by omega
      subst e
      obtain ⟨Y, d, hY, hY0, hY1⟩ := encA_form ps.reverse
      have hrl : ps.reverse.length = ps.length := List.length_reverse
      have hwf : ∀ p ∈ ps.reverse, wfP p := fun p hp => HP.out p (List.mem_reverse.1 hp)
      have hrt : F.take ps.length = ps.reverse := by rw [HFT.out]; exact List.take_of_length_le (by omega)
      have hbk := HOB.out
      rw [List.take_of_length_le (by omega)] at hbk
      have hsf : SeesP wr wr.heap.size (.slice (some ⟨g, 0, none⟩) ps.length capF) ps.reverse := by
        have := HOF.out.sees (us := ps.reverse) HFL.out (by rw [hrl]; exact hrt.symm) (by omega) (by omega)
        rw [hrl] at this
        exact this
      have HBK : Hid (ownP wr M _ ps.reverse) := hbk
      have E2 : Hid (∀ _ : Unit, Calls Try.prog 8 #[.slice (some ⟨g, 0, none⟩) ps.length capF] wr fun e w' => e = .returned (.tuple #[.string Y, .int .i64 d]) ∧ Below wr.heap.size wr w') := fun _ => (encode_any _ ps.reverse wr.heap.size wr (Nat.le_refl _) hsf hwf (by omega)).mono fun e w' ⟨he, hb⟩ => ⟨by rw [he, hY], hb⟩
      have E3 : Hid (∀ W v, ownP W M v ps.reverse → Calls Try.prog 12 #[v] W fun e w' => e = .returned (.tuple #[.string Y, .int .i64 d]) ∧ Below W.heap.size W w') := fun W v hv => (refEncode _ ps.reverse W.heap.size W (Nat.le_refl _) (hv.seesAll (by omega)) hwf (by omega)).mono fun e w' ⟨he, hb⟩ => ⟨by rw [he, hY], hb⟩
      have hlt : ¬ ((ps.length : Nat) : Int) < ((ps.length : Nat) : Int) := by omega
      clear hY hsf hwf hrt hbk HOF HOB HFT HS HA HP
      go_wp2_with fail
      refine (E2.out ()).mono ?_
      rintro e w6 ⟨rfl, hb⟩
      have HB6 : Hid (Below w.heap.size w w6) := HB.out.trans (hb.mono HB.out.size)
      have HBK6 : Hid (ownP w6 M _ ps.reverse) := HBK.out.same fun k hk _ => hb.block k hk
      clear hb E2 HB HBK
      go_wp2_with fail
      refine (E3.out w6 _ HBK6.out).mono ?_
      rintro e w7 ⟨rfl, hb⟩
      have HB7 : Hid (Below w.heap.size w w7) := HB6.out.trans (hb.mono HB6.out.size)
      clear hb E3 HB6 HBK6
      go_wp2
      go_ret
      exact ⟨by simp, HB7.out⟩
end Go.Proofs.Ytppfgcdfmdmffaa
