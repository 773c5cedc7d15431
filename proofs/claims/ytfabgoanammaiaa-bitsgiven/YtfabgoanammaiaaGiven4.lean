import Derived.Test.YtfabgoanammaiaaOneForm
import Derived.ArgAppend
import Derived.Deep.DeepAppendRoom
namespace Go.Proofs.Ytfabgoanammaiaa
open Go.ChangeShapes Go.WideShapes Go.ChangeAt Go.RowKit
set_option linter.unusedVariables false

/-- A mark of one's own. -/
def mkV (m : Int) : Int × Int × ByteArray := (9, m, ⟨#[109]⟩)
theorem cells3_set : ∀ (vs : List (Int × Int × ByteArray)) (k : Nat) (a b : Int) (c : ByteArray), k < vs.length → (((cells3 vs).set (k * 3) (.int .i64 a)).set (k * 3 + 1) (.int .i64 b)).set (k * 3 + 2) (.string c) = cells3 (vs.set k (a, b, c))
  | [], k, a, b, c, h => by simp at h
  | v :: vs, 0, a, b, c, h => rfl
  | v :: vs, k + 1, a, b, c, h => by
    have ih := cells3_set vs k a b c (by simpa using h)
    have e : ∀ (x : Int × Int × ByteArray) (l : List (Int × Int × ByteArray)), cells3 (x :: l) = .int .i64 x.1 :: .int .i64 x.2.1 :: .string x.2.2 :: cells3 l := fun _ _ => rfl
    rw [e, List.set_cons_succ, e, ← ih, show (k + 1) * 3 = k * 3 + 1 + 1 + 1 by omega]
    rfl
theorem ownV.put {w : World} {B g n cap : Nat} {vs : List (Int × Int × ByteArray)} (h : ownV w B (.slice (some ⟨g, 0, none⟩) n cap) vs) (hn : vs.length = n) (k : Nat) (hk : k < n) (a b : Int) (c : ByteArray) : ownV (((w.setCell ⟨g, k * 3, none⟩ (.int .i64 a)).setCell ⟨g, k * 3 + 1, none⟩ (.int .i64 b)).setCell ⟨g, k * 3 + 2, none⟩ (.string c)) B (.slice (some ⟨g, 0, none⟩) n cap) (vs.set k (a, b, c)) := by
  unfold ownV at h ⊢
  rw [hn] at h
  rw [List.length_set, hn, ← cells3_set vs k a b c (by omega)]
  exact (World.ownsRow.stored (World.ownsRow.stored (World.ownsRow.stored h _ _).1 _ _).1 _ _).1
theorem ownV.at {w : World} {B g n cap : Nat} {vs : List (Int × Int × ByteArray)} (h : ownV w B (.slice (some ⟨g, 0, none⟩) n cap) vs) (hn : vs.length = n) (k : Nat) (hk : k < n) : w.cell? ⟨g, k * 3, none⟩ = some (.int .i64 (vs[k]'(by omega)).1) ∧ w.cell? ⟨g, k * 3 + 1, none⟩ = some (.int .i64 (vs[k]'(by omega)).2.1) ∧ w.cell? ⟨g, k * 3 + 2, none⟩ = some (.string (vs[k]'(by omega)).2.2) ∧ (∀ j, w.frozen? ⟨g, j, none⟩ = false) := by
  unfold ownV at h
  rw [hn] at h
  have c := cells3_get vs k (by omega)
  refine ⟨?_, ?_, ?_, fun j => World.ownsRow.frozenAt h j⟩
  · rw [World.ownsRow.cellAt h _ (by omega)]; exact c.1
  · rw [World.ownsRow.cellAt h _ (by omega)]; exact c.2.1
  · rw [World.ownsRow.cellAt h _ (by omega)]; exact c.2.2
theorem Gr.put {w : World} {g : Nat} {b : Value} (h : b.ownBlock = some g) (j : Nat) (u : Value) : Gr b w b (w.setCell ⟨g, j, none⟩ u) :=
  ⟨fun k hk hn => Below.heap_setCell w _ _ k (by rw [h] at hn; intro e; exact hn (by rw [e])), .inl rfl, by simp [World.setCell]⟩
theorem ownV.shape {w : World} {B : Nat} {v : Value} {vs : List (Int × Int × ByteArray)} (h : ownV w B v vs) : (v = .slice none 0 0 ∧ vs = []) ∨ ∃ g cap, v = .slice (some ⟨g, 0, none⟩) vs.length cap ∧ vs.length ≤ cap ∧ B ≤ g ∧ g < w.heap.size := by
  rcases h.2 with ⟨e, e2⟩ | ⟨g, cap, cur, e, hb, hg, hnc, _⟩
  · exact .inl ⟨e, List.length_eq_zero_iff.1 e2⟩
  · exact .inr ⟨g, cap, e, hnc, hb, (Array.getElem?_eq_some_iff.1 hg).1⟩
/-- One value behind a list of one's own; the list itself stays as it was. -/
theorem app_mark {wr : World} {ops : Array Oper} {rest : List Oper} {o : Oper} {a : Act} {Q : Exit → Act → World → Prop} (hgd : o.guard = none) (s x : Operand)
    (ho : o.op = .call { callee := .builtin .append, args := #[s, x], argTypes := #[22, 22] })
    (B : Nat) (v : Value) (vs : List (Int × Int × ByteArray)) (c : Int × Int × ByteArray) (hown : ownV wr B v vs) (hs : a.eval s = v) (hx : a.eval x = .slice (some ⟨wr.heap.size, 0, none⟩) 1 1)
    (hlen : vs.length ≤ 1048576) (hB : B ≤ wr.heap.size)
    (h : ∀ v' w', SeesV w' w'.heap.size v vs → SeesV w' w'.heap.size v' (vs ++ [c]) → Gr v wr v' w' → Below B wr w' → wpList Try.prog ops Q rest (a.put o.dst v') w') :
    wpList Try.prog ops Q (o :: rest) a (wr.alloc (.cells #[.int .i64 c.1, .int .i64 c.2.1, .string c.2.2] 45)) := by
  obtain ⟨i0, hi, hz0, hz1, hz2⟩ := info_parts infoV
  have hsz := lt_alloc wr (.cells #[.int .i64 c.1, .int .i64 c.2.1, .string c.2.2] 45)
  have hnews : ∀ j u, (cell3 c)[j]? = some u → (wr.alloc (.cells #[.int .i64 c.1, .int .i64 c.2.1, .string c.2.2] 45)).cell? ((⟨wr.heap.size, 0, none⟩ : Addr).add j) = some u := by
    intro j u hj
    match j, hj with
    | 0, hj => simp [cell3] at hj; subst hj; simp [Addr.add]
    | 1, hj => simp [cell3] at hj; subst hj; simp [Addr.add]
    | 2, hj => simp [cell3] at hj; subst hj; simp [Addr.add]
  have hone : ∀ u ∈ cell3 c, u.oneCell' = true := by intro u hu; simp [cell3] at hu; rcases hu with rfl | rfl | rfl <;> rfl
  have hvl : (vs ++ [c]).length = vs.length + 1 := by simp
  have hcl : cells3 (vs ++ [c]) = cells3 vs ++ cell3 c := by simp [cells3]
  have hownA := World.ownsRow.alloc hown (.cells #[.int .i64 c.1, .int .i64 c.2.1, .string c.2.2] 45)
  rcases hown.shape with ⟨rfl, rfl⟩ | ⟨g, cap, rfl, hc1, hgB, hgl⟩
  · refine wpList_append_grows _ hgd s x 22 ho 45 i0 (.agg #[.int .i64 0, .int .i64 0, .string ⟨#[]⟩]) 3 32 Try.underlying22 hi hz0 hz1 hz2 rfl (by decide) none 0 0 [] hs (fun _ => ⟨rfl, rfl⟩) rfl (fun b hb => by cases hb)
      ⟨wr.heap.size, 0, none⟩ 1 1 (cell3 c) hx rfl hnews hone (by omega) (by unfold maxLen; omega) (by omega) ?_
    intro v' w' hown' hgrow
    have ho' : ownV w' (wr.alloc (.cells #[.int .i64 c.1, .int .i64 c.2.1, .string c.2.2] 45)).heap.size v' ([] ++ [c]) := by unfold ownV; rw [hvl, hcl]; exact hown'
    refine h v' w' ⟨none, 0, rfl, by simp, by simp, fun k hk => absurd hk (by simp)⟩ (ho'.seesAll (by simp)) ⟨fun k hk _ => ?_, ?_, ?_⟩ ?_
    · rw [hgrow.block k (by omega) (by simp)]; exact Below.heap_alloc wr _ k hk
    · exact .inr fun k hk => by have := (World.ownsRow.lt hown' k hk).1; omega
    · have := hgrow.size; omega
    · exact ((Below.refl _ _).alloc hB _).grown hgrow (by omega) (fun k hk => by cases hk)
  · by_cases hroom : vs.length + 1 ≤ cap
    · refine wpList_append_own_spare _ hgd s x 22 ho B 45 i0 3 Try.underlying22 hi hz1 g vs.length cap _ hs hownA ⟨wr.heap.size, 0, none⟩ 1 1 (cell3 c) hx rfl hnews hone hroom ?_
      intro w' hown' hgrow
      have ho' : ownV w' B (.slice (some ⟨g, 0, none⟩) (vs.length + 1) cap) (vs ++ [c]) := by unfold ownV; rw [hvl, hcl]; exact hown'
      refine h _ w' ?_ ?_ ⟨fun k hk hn => ?_, .inl rfl, ?_⟩ ?_
      · exact ho'.sees (us := vs) hvl (by simp) (by omega) (by omega)
      · have := ho'.seesAll (by omega); exact this
      · rw [hgrow.block k (by omega) hn]; exact Below.heap_alloc wr _ k hk
      · have := hgrow.size; omega
      · exact ((Below.refl _ _).alloc hB _).grown hgrow (by omega) (fun k hk => by cases hk; exact hgB)
    · have hcells : ∀ j u, (cells3 vs)[j]? = some u → (wr.alloc (.cells #[.int .i64 c.1, .int .i64 c.2.1, .string c.2.2] 45)).cell? ((⟨g, 0, none⟩ : Addr).add j) = some u := by
        intro j u hj
        have hjl : j < vs.length * 3 := by
          rcases Nat.lt_or_ge j (vs.length * 3) with h | h
          · exact h
          · rw [List.getElem?_eq_none (by rw [cells3_len]; exact h)] at hj; cases hj
        have ea : (⟨g, 0, none⟩ : Addr).add j = ⟨g, j, none⟩ := by unfold Addr.add; split <;> simp_all
        rw [ea, World.ownsRow.cellAt hownA j hjl]
        exact hj
      refine wpList_append_grows _ hgd s x 22 ho 45 i0 (.agg #[.int .i64 0, .int .i64 0, .string ⟨#[]⟩]) 3 32 Try.underlying22 hi hz0 hz1 hz2 rfl (by decide) (some ⟨g, 0, none⟩) vs.length cap (cells3 vs) hs (fun h => by cases h) (cells3_len vs) (fun b hb => by cases hb; exact hcells)
        ⟨wr.heap.size, 0, none⟩ 1 1 (cell3 c) hx rfl hnews hone (by omega) (by unfold maxLen; omega) (by omega) ?_
      intro v' w' hown' hgrow
      have ho' : ownV w' (wr.alloc (.cells #[.int .i64 c.1, .int .i64 c.2.1, .string c.2.2] 45)).heap.size v' (vs ++ [c]) := by unfold ownV; rw [hvl, hcl]; exact hown'
      have hol : ownV w' B (.slice (some ⟨g, 0, none⟩) vs.length cap) vs := ownV.same hownA fun k hk _ => hgrow.block k hk (by simp)
      refine h v' w' (hol.seesAll (by omega)) (ho'.seesAll (by omega)) ⟨fun k hk _ => ?_, ?_, ?_⟩ ?_
      · rw [hgrow.block k (by omega) (by simp)]; exact Below.heap_alloc wr _ k hk
      · exact .inr fun k hk => by have := (World.ownsRow.lt hown' k hk).1; omega
      · have := hgrow.size; omega
      · exact ((Below.refl _ _).alloc hB _).grown hgrow (by omega) (fun k hk => by cases hk)
end Go.Proofs.Ytfabgoanammaiaa

namespace Go.Proofs.Ytfabgoanammaiaa
open Go.ChangeShapes Go.WideShapes Go.ChangeAt Go.RowKit
set_option linter.unusedVariables false

theorem take_setV {F : List (Int × Int × ByteArray)} {k : Nat} (h : k < F.length) (x : Int × Int × ByteArray) : (F.set k x).take (k + 1) = F.take k ++ [x] := by
  have e : F.set k x = (F.take k ++ [x]) ++ F.drop (k + 1) := by rw [List.set_eq_take_append_cons_drop, if_pos h, List.append_assoc, List.singleton_append]
  rw [e]
  exact List.take_left' (by simp; omega)
set_option maxRecDepth 100000 in
set_option maxHeartbeats 3200000 in
theorem marks_any (l : Value) (us : List (Int × Int × ByteArray)) (B : Nat) (w : World) (m : Int) (hB : B ≤ w.heap.size) (hown : ownV w B l us) (hl : us.length ≤ 16) :
    Calls Try.prog 16 #[l, .int .i64 m] w fun e w' => ∃ g', e = .returned g' ∧ SeesV w' w'.heap.size l (List.replicate us.length (mkV m)) ∧ SeesV w' w'.heap.size g' (List.replicate (us.length + 1) (mkV m)) ∧ Gr l w g' w' ∧ Below B w w' := by
  have hsh := hown.shape
  obtain ⟨ao, cap, hle⟩ : ∃ ao cap, l = .slice ao us.length cap := by
    rcases hsh with ⟨e, e2⟩ | ⟨g, cap, e, _⟩
    · exact ⟨none, 0, by rw [e, e2]; rfl⟩
    · exact ⟨_, cap, e⟩
  subst hle
  have HA : Hid (ownV w B (.slice ao us.length cap) us) := hown
  have HSH : Hid _ := hsh
  clear hown hsh
  go_enter Try.func16, Try.ntmps16
  go_wp2_with fail
  go_loopw [5] (fun i wr => ∃ (k : Nat) (F : List (Int × Int × ByteArray)), k ≤ us.length ∧ i = .int .i64 (k : Int) ∧ F.length = us.length ∧ F.take k = List.replicate k (mkV m) ∧ ownV wr B (.slice ao us.length cap) F ∧ Below B w wr ∧ Gr (.slice ao us.length cap) w (.slice ao us.length cap) wr) (fun i _ => us.length - (intOf i).toNat)
  case atStart => exact ⟨0, us, by omega, rfl, rfl, rfl, HA.out, Below.refl _ _, Gr.refl _ _⟩
  case round =>
    obtain ⟨k, F, hk, rfl, hF, hFt, hof, hbel, hgr⟩ := hrel
    have HO : Hid (ownV wr B (.slice ao us.length cap) F) := hof
    have HB : Hid (Below B w wr) := hbel
    have HG : Hid (Gr (.slice ao us.length cap) w (.slice ao us.length cap) wr) := hgr
    have HFL : Hid (F.length = us.length) := hF
    have HFT : Hid (F.take k = List.replicate k (mkV m)) := hFt
    clear hof hbel hgr hF hFt
    by_cases h1 : k < us.length
    · obtain ⟨g, rfl, hgB⟩ : ∃ g, ao = some ⟨g, 0, none⟩ ∧ B ≤ g := by
        rcases HSH.out with ⟨e, e2⟩ | ⟨g, c2, e, _, hb, _⟩
        · rw [e2] at h1; simp at h1
        · simp only [Value.slice.injEq] at e; exact ⟨g, e.1, hb⟩
      obtain ⟨x0, x1, x2, fz⟩ := HO.out.at HFL.out k h1
      have hF0 : k < F.length := by have := HFL.out; omega
      generalize hfk : F[k] = fk at x0 x1 x2
      clear hfk
      have f0 := fz (k * 3)
      have f1 := fz (k * 3 + 1)
      have f2 := fz (k * 3 + 2)
      have h1' : (k : Int) < (us.length : Int) := by omega
      have HP : Hid (ownV (((wr.setCell ⟨g, k * 3, none⟩ (.int .i64 9)).setCell ⟨g, k * 3 + 1, none⟩ (.int .i64 m)).setCell ⟨g, k * 3 + 2, none⟩ (.string ⟨#[109]⟩)) B (.slice (some ⟨g, 0, none⟩) us.length cap) (F.set k (9, m, ⟨#[109]⟩))) := HO.out.put HFL.out k h1 9 m ⟨#[109]⟩
      have HB2 : Hid (∀ a b c, Below B w (((wr.setCell ⟨g, k * 3, none⟩ a).setCell ⟨g, k * 3 + 1, none⟩ b).setCell ⟨g, k * 3 + 2, none⟩ c)) := fun a b c => ((HB.out.setCell (p := ⟨g, k * 3, none⟩) hgB _).setCell (p := ⟨g, k * 3 + 1, none⟩) hgB _).setCell (p := ⟨g, k * 3 + 2, none⟩) hgB _
      have HG2 : Hid (∀ a b c, Gr (.slice (some ⟨g, 0, none⟩) us.length cap) w (.slice (some ⟨g, 0, none⟩) us.length cap) (((wr.setCell ⟨g, k * 3, none⟩ a).setCell ⟨g, k * 3 + 1, none⟩ b).setCell ⟨g, k * 3 + 2, none⟩ c)) := fun a b c => ((HG.out.trans (Gr.put rfl _ a)).trans (Gr.put rfl _ b)).trans (Gr.put rfl _ c)
      clear fz HO HB HG
      go_wp2
      go_roundw
      case rel => exact ⟨k + 1, _, by omega, by go_num, by rw [List.length_set]; exact HFL.out, by rw [take_setV hF0, HFT.out, List.replicate_succ']; rfl, HP.out, HB2.out _ _ _, HG2.out _ _ _⟩
      case measure => simp [intOf]; omega
    · have e : k = us.length := by omega
      subst e
      have hFr : F = List.replicate us.length (mkV m) := by
        have := HFT.out
        rw [List.take_of_length_le (by rw [HFL.out]; exact Nat.le_refl _)] at this
        exact this
      subst hFr
      have hlt : ¬ ((us.length : Nat) : Int) < ((us.length : Nat) : Int) := by omega
      have hBr : B ≤ wr.heap.size := Nat.le_trans hB HB.out.size
      have hrl : (List.replicate us.length (mkV m)).length ≤ 1048576 := by simp; omega
      have HR : Hid (List.replicate us.length (mkV m) ++ [mkV m] = List.replicate (us.length + 1) (mkV m)) := by show _ = _; rw [List.replicate_succ']
      clear HFT HFL HA HSH
      go_wp2_with (at_builtin; refine app_mark (by rfl) _ _ (by rfl) B _ (List.replicate us.length (mkV m)) (mkV m) HO.out (by rfl) (by rfl) hrl hBr ?_; intro v' w6 hs1 hs2 hg6 hb6; have H1 : Hid (SeesV w6 w6.heap.size (.slice ao us.length cap) (List.replicate us.length (mkV m))) := hs1; have H2 : Hid (SeesV w6 w6.heap.size v' _) := hs2; have H3 : Hid (Gr (.slice ao us.length cap) w v' w6) := HG.out.trans hg6; have H4 : Hid (Below B w w6) := HB.out.trans hb6; clear hs1 hs2 hg6 hb6)
      go_ret
      exact ⟨_, rfl, H1.out, by rw [← HR.out]; exact H2.out, H3.out, H4.out⟩
set_option maxRecDepth 100000 in
set_option maxHeartbeats 3200000 in
theorem marked_any (l : Value) (n : Nat) (m : Int) (B : Nat) (w : World) (hB : B ≤ w.heap.size) (hs : SeesV w B l (List.replicate n (mkV m))) :
    Calls Try.prog 17 #[l, .int .i64 m] w fun e w' => e = .returned (.bool true) ∧ Below B w w' := by
  obtain ⟨ao, cap, rfl, hl1, hc1, hs1⟩ := hs
  rw [List.length_replicate] at hl1 hc1 ⊢
  have HA : Hid (∀ i, i < n → ∃ b off, ao = some ⟨b, off, none⟩ ∧ b < B ∧ w.cell? ⟨b, off + i * 3, none⟩ = some (.int .i64 9) ∧ w.cell? ⟨b, off + i * 3 + 1, none⟩ = some (.int .i64 m) ∧ w.cell? ⟨b, off + i * 3 + 2, none⟩ = some (.string ⟨#[109]⟩)) := fun i hi => by
    have := hs1 i (by simpa using hi)
    simpa [mkV] using this
  clear hs1
  go_enter Try.func17, Try.ntmps17
  go_wp2_with fail
  go_loopw [5] (fun i wr => ∃ k : Nat, k ≤ n ∧ i = .int .i64 (k : Int) ∧ Below B w wr) (fun i _ => n - (intOf i).toNat)
  case atStart => exact ⟨0, by omega, rfl, Below.refl _ _⟩
  case round =>
    obtain ⟨k, hk, rfl, hbel⟩ := hrel
    have HB : Hid (Below B w wr) := hbel
    clear hbel
    by_cases h1 : k < n
    · obtain ⟨b1, o1, rfl, hb1, x0, x1, x2⟩ := HA.out k h1
      have y0 := (HB.out.cell (p := ⟨b1, o1 + k * 3, none⟩) hb1).trans x0
      have y1 := (HB.out.cell (p := ⟨b1, o1 + k * 3 + 1, none⟩) hb1).trans x1
      have y2 := (HB.out.cell (p := ⟨b1, o1 + k * 3 + 2, none⟩) hb1).trans x2
      have h1' : (k : Int) < (n : Int) := by omega
      clear x0 x1 x2
      go_wp2
      go_roundw
      case rel => exact ⟨k + 1, by omega, by go_num, HB.out⟩
      case measure => simp [intOf]; omega
    · have h1' : ¬ (k : Int) < (n : Int) := by omega
      go_wp2
      go_ret
      exact ⟨rfl, HB.out⟩
end Go.Proofs.Ytfabgoanammaiaa

namespace Go.Proofs.Ytfabgoanammaiaa
open Go.ChangeShapes Go.WideShapes Go.ChangeAt Go.RowKit
set_option linter.unusedVariables false

theorem infoSl : (Try.prog.info? 22).map (fun i => (i.zero, i.size, i.bytes)) = some (some (.slice none 0 0), 1, 24) := by kernel_rfl
/-- The slice value v holds just the lists xs, in a row of the call's own. -/
def ownR (w : World) (B : Nat) (v : Value) (xs : List Value) : Prop := w.ownsRow B 22 1 v xs.length xs
theorem ownR_nil (w : World) (B : Nat) : ownR w B (.slice none 0 0) [] := World.ownsRow_nil _ _ _ _
theorem ownR.same {w w' : World} {B : Nat} {v : Value} {xs : List Value} (h : ownR w B v xs) (hk : ∀ b, v.ownBlock = some b → w'.heap[b]? = w.heap[b]?) : ownR w' B v xs := by
  rcases h with ⟨h1, h2 | ⟨g, cap, cur, rfl, hb, hg, hr⟩⟩
  · exact ⟨h1, .inl h2⟩
  · exact ⟨h1, .inr ⟨g, cap, cur, rfl, hb, by rw [hk g rfl]; exact hg, hr⟩⟩
theorem ownV.keep {w w' : World} {B : Nat} {v : Value} {xs : List (Int × Int × ByteArray)} (h : ownV w B v xs) (hk : ∀ b, v.ownBlock = some b → w'.heap[b]? = w.heap[b]?) : ownV w' B v xs := by
  rcases h with ⟨h1, h2 | ⟨g, cap, cur, rfl, hb, hg, hr⟩⟩
  · exact ⟨h1, .inl h2⟩
  · exact ⟨h1, .inr ⟨g, cap, cur, rfl, hb, by rw [hk g rfl]; exact hg, hr⟩⟩
theorem SeesV.keep {w w' : World} {B B' : Nat} {v : Value} {xs : List (Int × Int × ByteArray)} (h : SeesV w B v xs) (hB : B ≤ B') (hk : ∀ b, v.ownBlock = some b → w'.heap[b]? = w.heap[b]?) : SeesV w' B' v xs := by
  obtain ⟨ao, cap, rfl, h1, h2, h3⟩ := h
  refine ⟨ao, cap, rfl, h1, h2, fun i hi => ?_⟩
  obtain ⟨b, off, rfl, hb, c0, c1, c2⟩ := h3 i hi
  have := hk b rfl
  exact ⟨b, off, rfl, by omega, by rw [World.cell?_of_block (w := w) this]; exact c0, by rw [World.cell?_of_block (w := w) this]; exact c1, by rw [World.cell?_of_block (w := w) this]; exact c2⟩
theorem ownR.lt {w : World} {B : Nat} {v : Value} {xs : List Value} (h : ownR w B v xs) (k : Nat) (hk : v.ownBlock = some k) : B ≤ k ∧ k < w.heap.size := World.ownsRow.lt h k hk
theorem ownV.lt {w : World} {B : Nat} {v : Value} {xs : List (Int × Int × ByteArray)} (h : ownV w B v xs) (k : Nat) (hk : v.ownBlock = some k) : B ≤ k ∧ k < w.heap.size := World.ownsRow.lt h k hk
theorem ownR.len {w : World} {B : Nat} {v : Value} {xs : List Value} (h : ownR w B v xs) : ∃ ao cap, v = .slice ao xs.length cap ∧ xs.length ≤ cap ∧ ∀ j (hj : j < xs.length), ∃ g, ao = some ⟨g, 0, none⟩ ∧ w.cell? ⟨g, j, none⟩ = some xs[j] := by
  have hh := h
  rcases h.2 with ⟨e, e2⟩ | ⟨g, cap, cur, e, hb, hg, hnc, hm, hs, ht⟩
  · exact ⟨none, 0, by rw [e, e2], by omega, fun j hj => by omega⟩
  · subst e
    refine ⟨some ⟨g, 0, none⟩, cap, rfl, hnc, fun j hj => ⟨g, rfl, ?_⟩⟩
    unfold ownR at hh
    rw [World.ownsRow.cellAt hh j (by omega), List.getElem?_eq_getElem hj]
/-- Lists behind a row of lists. -/
theorem app_row {W wr : World} {ops : Array Oper} {rest : List Oper} {o : Oper} {a : Act} {Q : Exit → Act → World → Prop} (ns : List Value) (hn0 : 0 < ns.length) (hn : ns.length ≤ 2) (hone : ∀ u ∈ ns, u.oneCell' = true) (hW : W = wr.alloc (.cells ns.toArray 22)) (hgd : o.guard = none) (s x : Operand)
    (ho : o.op = .call { callee := .builtin .append, args := #[s, x], argTypes := #[36, 36] })
    (B : Nat) (v : Value) (xs : List Value) (hown : ownR wr B v xs) (hs : a.eval s = v) (hx : a.eval x = .slice (some ⟨wr.heap.size, 0, none⟩) ns.length ns.length)
    (hlen : xs.length ≤ 1048576) (hB : B ≤ wr.heap.size)
    (h : ∀ v' w', ownR w' B v' (xs ++ ns) → Gr v wr v' w' → Below B wr w' → wpList Try.prog ops Q rest (a.put o.dst v') w') :
    wpList Try.prog ops Q (o :: rest) a W := by
  subst hW
  obtain ⟨i0, hi, hz0, hz1, hz2⟩ := info_parts infoSl
  have hsz := lt_alloc wr (.cells ns.toArray 22)
  refine wpList_append_lies _ hgd s x 36 ho B 22 i0 (.slice none 0 0) 1 24 Try.underlying36 hi hz0 hz1 hz2 rfl (by decide) v xs.length _ hs (World.ownsRow.alloc hown _)
    ⟨wr.heap.size, 0, none⟩ ns.length ns.length ns hx (by simp) ?_ hone hn0 (by unfold maxLen; omega) (by omega) (by omega) (wr.heap.size + 1) (by simp) ?_
  · have := World.news_of_block (w := wr.alloc (.cells ns.toArray 22)) (cs := ns.toArray) (heap_alloc_new wr _)
    simpa using this
  · intro g' cap w' hown' hgrow hlies _
    refine h _ w' ?_ ?_ ?_
    · unfold ownR; rw [List.length_append]; exact hown'
    · refine ⟨fun k hk hn => ?_, ?_, ?_⟩
      · rw [hgrow.block k (by omega) hn]; exact Below.heap_alloc wr _ k hk
      · rcases hlies with e | e
        · exact .inl e.symm
        · exact .inr fun k hk => by simp [Value.ownBlock] at hk; omega
      · have := hgrow.size; omega
    · exact ((Below.refl _ _).alloc hB _).grown hgrow (by omega) (fun k hk => (World.ownsRow.lt hown k hk).1)
/-- The lists that were kept: each in memory of its own. -/
structure KS (W : World) (M : Nat) (kv : Value) (kl : List (Value × List (Int × Int × ByteArray))) : Prop where
  row : ownR W M kv (kl.map (·.1))
  own : ∀ p ∈ kl, ownV W M p.1 p.2
  few : ∀ p ∈ kl, p.2.length ≤ 16
  ne : ∀ p ∈ kl, ∀ b, p.1.ownBlock = some b → kv.ownBlock ≠ some b
  pw : kl.Pairwise fun p q => ∀ b, p.1.ownBlock = some b → q.1.ownBlock ≠ some b
theorem KS.step {W W' : World} {M : Nat} {kv : Value} {kl : List (Value × List (Int × Int × ByteArray))} (h : KS W M kv kl) (hb : Below W.heap.size W W') : KS W' M kv kl :=
  ⟨h.row.same fun b e => hb.block b (h.row.lt b e).2, fun p hp => (h.own p hp).keep fun b e => hb.block b ((h.own p hp).lt b e).2, h.few, h.ne, h.pw⟩
/-- More lists are kept. -/
theorem KS.push {W W' : World} {M : Nat} {kv kv' : Value} {kl ns : List (Value × List (Int × Int × ByteArray))} (h : KS W M kv kl) (hr : ownR W' M kv' (kl.map (·.1) ++ ns.map (·.1))) (hg : Gr kv W kv' W')
    (hown : ∀ p ∈ ns, ownV W M p.1 p.2) (hfew : ∀ p ∈ ns, p.2.length ≤ 16) (hne : ∀ p ∈ ns, ∀ b, p.1.ownBlock = some b → kv.ownBlock ≠ some b)
    (hpw : ns.Pairwise fun p q => ∀ b, p.1.ownBlock = some b → q.1.ownBlock ≠ some b) (hx : ∀ p ∈ kl, ∀ q ∈ ns, ∀ b, p.1.ownBlock = some b → q.1.ownBlock ≠ some b) : KS W' M kv' (kl ++ ns) := by
  have hall : ∀ p ∈ kl ++ ns, ownV W M p.1 p.2 ∧ p.2.length ≤ 16 ∧ ∀ b, p.1.ownBlock = some b → kv.ownBlock ≠ some b := by
    intro p hp
    rcases List.mem_append.1 hp with h1 | h1
    · exact ⟨h.own p h1, h.few p h1, h.ne p h1⟩
    · exact ⟨hown p h1, hfew p h1, hne p h1⟩
  refine ⟨by rw [List.map_append]; exact hr, fun p hp => ?_, fun p hp => (hall p hp).2.1, fun p hp b hb => ?_, ?_⟩
  · obtain ⟨a1, _, a3⟩ := hall p hp
    exact a1.keep fun b e => hg.far b (a1.lt b e).2 (fun e2 => a3 b e e2.symm)
  · obtain ⟨a1, _, a3⟩ := hall p hp
    rcases hg.own with e | e
    · rw [e]; exact a3 b hb
    · intro e2
      have := e b e2
      have := (a1.lt b hb).2
      omega
  · rw [List.pairwise_append]
    exact ⟨h.pw, hpw, fun p hp q hq => hx p hp q hq⟩
/-- While the lists are marked: those ahead of k are, and what was grown of them; the others are as they were. -/
structure KM (W : World) (M M1 : Nat) (kv gv : Value) (kl : List (Value × List (Int × Int × ByteArray))) (gl : List Value) (k : Nat) : Prop where
  row : ownR W M kv (kl.map (·.1))
  rest : ∀ j (hj : j < kl.length), k ≤ j → ownV W M kl[j].1 kl[j].2
  glen : gl.length = k
  done : ∀ j (hj : j < kl.length) (hg : j < gl.length), SeesV W W.heap.size kl[j].1 (List.replicate kl[j].2.length (mkV (j + 1))) ∧ SeesV W W.heap.size gl[j] (List.replicate (kl[j].2.length + 1) (mkV (j + 1)))
  grow : ownR W M1 gv gl
  gblk : ∀ j (hj : j < kl.length) (hg : j < gl.length), ∀ b, gl[j].ownBlock = some b → b < W.heap.size ∧ (kl[j].1.ownBlock = some b ∨ M1 ≤ b) ∧ gv.ownBlock ≠ some b
  size : M1 ≤ W.heap.size
/-- What does not change meanwhile. -/
structure KC (M1 : Nat) (kv : Value) (kl : List (Value × List (Int × Int × ByteArray))) : Prop where
  few : ∀ j (hj : j < kl.length), kl[j].2.length ≤ 16
  low : ∀ j (hj : j < kl.length), ∀ b, kl[j].1.ownBlock = some b → b < M1
  kvl : ∀ b, kv.ownBlock = some b → b < M1
  ne : ∀ j (hj : j < kl.length), ∀ b, kl[j].1.ownBlock = some b → kv.ownBlock ≠ some b
  pw : ∀ i j (hi : i < kl.length) (hj : j < kl.length), i ≠ j → ∀ b, kl[i].1.ownBlock = some b → kl[j].1.ownBlock ≠ some b
theorem KS.const {W : World} {M : Nat} {kv : Value} {kl : List (Value × List (Int × Int × ByteArray))} (h : KS W M kv kl) : KC W.heap.size kv kl := by
  refine ⟨fun j hj => h.few _ (List.getElem_mem hj), fun j hj b e => ((h.own _ (List.getElem_mem hj)).lt b e).2, fun b e => (h.row.lt b e).2, fun j hj => h.ne _ (List.getElem_mem hj), ?_⟩
  intro i j hi hj hij b e1 e2
  have hp := List.pairwise_iff_getElem.1 h.pw
  rcases Nat.lt_or_gt_of_ne hij with h1 | h1
  · exact hp i j hi hj h1 b e1 e2
  · exact hp j i hj hi h1 b e2 e1
theorem KS.start {W : World} {M : Nat} {kv : Value} {kl : List (Value × List (Int × Int × ByteArray))} (h : KS W M kv kl) : KM W M W.heap.size kv (.slice none 0 0) kl [] 0 :=
  ⟨h.row, fun j hj _ => h.own _ (List.getElem_mem hj), rfl, fun j hj hg => absurd hg (by simp), ownR_nil _ _, fun j hj hg => absurd hg (by simp), Nat.le_refl _⟩
/-- A list is marked, and what came of it is put behind the others. -/
theorem KM.next {W W1 W2 : World} {M M1 : Nat} {kv gv gv' g' : Value} {kl : List (Value × List (Int × Int × ByteArray))} {gl : List Value} {k : Nat} (h : KM W M M1 kv gv kl gl k) (hc : KC M1 kv kl) (hk : k < kl.length)
    (s1 : SeesV W1 W1.heap.size kl[k].1 (List.replicate kl[k].2.length (mkV (k + 1)))) (s2 : SeesV W1 W1.heap.size g' (List.replicate (kl[k].2.length + 1) (mkV (k + 1)))) (hg1 : Gr kl[k].1 W g' W1) (hgl : ∀ b, g'.ownBlock = some b → b < W1.heap.size)
    (hr : ownR W2 M1 gv' (gl ++ [g'])) (hg2 : Gr gv W1 gv' W2) : KM W2 M M1 kv gv' kl (gl ++ [g']) (k + 1) := by
  have hgv : ∀ b, gv.ownBlock = some b → M1 ≤ b ∧ b < W.heap.size := fun b e => h.grow.lt b e
  have z1 := hg1.size
  have z2 := hg2.size
  have z0 := h.size
  have low : ∀ b, b < M1 → kl[k].1.ownBlock ≠ some b → W2.heap[b]? = W.heap[b]? := fun b hb hn => by
    rw [hg2.far b (by omega) (fun e => by have := (hgv b e.symm).1; omega), hg1.far b (by omega) (fun e => hn e.symm)]
  have low1 : ∀ b, b < M1 → W2.heap[b]? = W1.heap[b]? := fun b hb => hg2.far b (by omega) (fun e => by have := (hgv b e.symm).1; omega)
  have gnew : ∀ b, g'.ownBlock = some b → (kl[k].1.ownBlock = some b ∨ M1 ≤ b) ∧ gv.ownBlock ≠ some b := fun b e => by
    rcases hg1.own with e1 | e1
    · rw [e] at e1
      refine ⟨.inl e1.symm, fun e2 => ?_⟩
      have := hc.low k hk b e1.symm
      have := (hgv b e2).1
      omega
    · have := e1 b e
      exact ⟨.inr (by omega), fun e2 => by have := (hgv b e2).2; omega⟩
  refine ⟨?_, ?_, by simp [h.glen], ?_, hr, ?_, by omega⟩
  · exact h.row.same fun b e => low b (hc.kvl b e) (fun e2 => hc.ne k hk b e2 e)
  · intro j hj hkj
    exact (h.rest j hj (by omega)).keep fun b e => low b (hc.low j hj b e) (hc.pw j k hj hk (by omega) b e)
  · intro j hj hg
    rw [List.length_append, List.length_singleton, h.glen] at hg
    by_cases e : j = k
    · subst e
      have eg : (gl ++ [g'])[j]'(by simp [h.glen]) = g' := by rw [List.getElem_append_right (by rw [h.glen]; exact Nat.le_refl _)]; simp
      rw [eg]
      refine ⟨s1.keep (by omega) fun b e => low1 b (hc.low j hj b e), s2.keep (by omega) fun b e => ?_⟩
      exact hg2.far b (hgl b e) (fun e2 => (gnew b e).2 e2.symm)
    · have hjk : j < gl.length := by rw [h.glen]; omega
      have eg : (gl ++ [g'])[j]'(by simp; omega) = gl[j] := List.getElem_append_left hjk
      rw [eg]
      obtain ⟨d1, d2⟩ := h.done j hj hjk
      refine ⟨d1.keep (by omega) fun b e2 => low b (hc.low j hj b e2) (hc.pw j k hj hk e b e2), d2.keep (by omega) fun b e2 => ?_⟩
      obtain ⟨q0, q1, q2⟩ := h.gblk j hj hjk b e2
      rw [hg2.far b (by omega) (fun e3 => q2 e3.symm), hg1.far b q0 (fun e3 => ?_)]
      rcases q1 with q1 | q1
      · exact hc.pw j k hj hk e b q1 e3.symm
      · have := hc.low k hk b e3.symm; omega
  · intro j hj hg b eb
    rw [List.length_append, List.length_singleton, h.glen] at hg
    by_cases e : j = k
    · subst e
      have eg : (gl ++ [g'])[j]'(by simp [h.glen]) = g' := by rw [List.getElem_append_right (by rw [h.glen]; exact Nat.le_refl _)]; simp
      rw [eg] at eb
      refine ⟨by have := hgl b eb; omega, (gnew b eb).1, ?_⟩
      rcases hg2.own with e1 | e1
      · rw [e1]; exact (gnew b eb).2
      · intro e2; have := e1 b e2; have := hgl b eb; omega
    · have hjk : j < gl.length := by rw [h.glen]; omega
      have eg : (gl ++ [g'])[j]'(by simp; omega) = gl[j] := List.getElem_append_left hjk
      rw [eg] at eb
      obtain ⟨q0, q1, q2⟩ := h.gblk j hj hjk b eb
      refine ⟨by omega, q1, ?_⟩
      rcases hg2.own with e1 | e1
      · rw [e1]; exact q2
      · intro e2; have := e1 b e2; omega
/-- A call that changes nothing old. -/
theorem KM.step {W W' : World} {M M1 : Nat} {kv gv : Value} {kl : List (Value × List (Int × Int × ByteArray))} {gl : List Value} {k : Nat} (h : KM W M M1 kv gv kl gl k) (hc : KC M1 kv kl) (hb : Below W.heap.size W W') : KM W' M M1 kv gv kl gl k := by
  have z0 := h.size
  have zs := hb.size
  refine ⟨h.row.same fun b e => hb.block b (by have := hc.kvl b e; omega), fun j hj hk => (h.rest j hj hk).keep fun b e => hb.block b (by have := hc.low j hj b e; omega), h.glen, fun j hj hg => ?_, h.grow.same fun b e => hb.block b (h.grow.lt b e).2, fun j hj hg b e => ?_, by omega⟩
  · obtain ⟨d1, d2⟩ := h.done j hj hg
    exact ⟨d1.keep zs fun b e => hb.block b (by have := hc.low j hj b e; omega), d2.keep zs fun b e => hb.block b (h.gblk j hj hg b e).1⟩
  · obtain ⟨q0, q1, q2⟩ := h.gblk j hj hg b e
    exact ⟨by omega, q1, q2⟩
end Go.Proofs.Ytfabgoanammaiaa

namespace Go.Proofs.Ytfabgoanammaiaa
open Go.ChangeShapes Go.WideShapes Go.ChangeAt Go.RowKit
set_option linter.unusedVariables false

theorem may_false (vs : List (Int × Int × ByteArray)) (h : mayB vs = false) : 16 < vs.length ∨ faultL vs ≠ 0 := by
  rcases Nat.lt_or_ge 16 vs.length with h1 | h1
  · exact .inl h1
  · right
    intro hf
    have : mayB vs = true := by
      unfold mayB
      simp only [Bool.and_eq_true, decide_eq_true_eq, List.all_eq_true]
      exact ⟨h1, fun v hv => fault_each vs hf v hv⟩
    rw [this] at h; cases h
theorem keyR (a : Value) (vs : List (Int × Int × ByteArray)) (w : World) (ha : SeesV w w.heap.size a vs) (hv : wfV vs) :
    Calls Try.prog 7 #[a] w fun e w' => ∃ S c, e = .returned (.tuple #[.string S, .int .i64 c]) ∧ Below w.heap.size w w' ∧ (mayB vs = true → S = strOfNums (keyL vs) ∧ c = 0) ∧ (mayB vs = false → S = ⟨#[]⟩ ∧ (c != 0) = true) := by
  refine (keyG a vs w.heap.size w (Nat.le_refl _) ha hv).mono fun e w' ⟨he, hb⟩ => ?_
  cases hm : mayB vs
  · rcases may_false vs hm with h | h
    · rw [if_pos h] at he
      exact ⟨_, _, he, hb, (fun h => by cases h), fun _ => ⟨rfl, rfl⟩⟩
    · by_cases h16 : 16 < vs.length
      · rw [if_pos h16] at he
        exact ⟨_, _, he, hb, (fun h => by cases h), fun _ => ⟨rfl, rfl⟩⟩
      · rw [if_neg h16, if_neg h] at he
        exact ⟨_, _, he, hb, (fun h => by cases h), fun _ => ⟨rfl, by simpa using h⟩⟩
  · obtain ⟨f1, f2, f3⟩ := may_true vs hm
    rw [if_neg f1, if_pos f2] at he
    exact ⟨_, _, he, hb, fun _ => ⟨rfl, rfl⟩, (fun h => by cases h)⟩
theorem rowR (a : Value) (vs : List (Int × Int × ByteArray)) (w : World) (ha : SeesV w w.heap.size a vs) (hv : wfV vs) :
    Calls Try.prog 10 #[a] w fun e w' => ∃ S c, e = .returned (.tuple #[.string S, .int .i64 c]) ∧ Below w.heap.size w w' ∧ (mayB vs = true → S = strOfNums (rowAll vs) ∧ c = 0) ∧ (mayB vs = false → S = ⟨#[]⟩ ∧ (c != 0) = true) := by
  refine (rowG a vs w.heap.size w (Nat.le_refl _) ha hv).mono fun e w' ⟨he, hb⟩ => ?_
  cases hm : mayB vs
  · rcases may_false vs hm with h | h
    · rw [if_pos h] at he
      exact ⟨_, _, he, hb, (fun h => by cases h), fun _ => ⟨rfl, rfl⟩⟩
    · by_cases h16 : 16 < vs.length
      · rw [if_pos h16] at he
        exact ⟨_, _, he, hb, (fun h => by cases h), fun _ => ⟨rfl, rfl⟩⟩
      · rw [if_neg h16, if_neg h] at he
        exact ⟨_, _, he, hb, (fun h => by cases h), fun _ => ⟨rfl, by simpa using h⟩⟩
  · obtain ⟨f1, f2, f3⟩ := may_true vs hm
    rw [if_neg f1, if_pos f2] at he
    exact ⟨_, _, he, hb, fun _ => ⟨rfl, rfl⟩, (fun h => by cases h)⟩
/-- A good list's bytes, read: a list in new memory. -/
theorem backK (vs : List (Int × Int × ByteArray)) (hm : mayB vs = true) (hv : wfV vs) (W : World) : Calls Try.prog 8 #[.string (strOfNums (keyL vs))] W fun e w' => ∃ v, e = .returned (.tuple #[v, .int .i64 0]) ∧ ownV w' W.heap.size v vs ∧ Below W.heap.size W w' := by
  obtain ⟨f1, f2, f3⟩ := may_true vs hm
  have hz := key_fits vs f1 f2
  have hk := rkL_key vs f2 (by omega) (fun v hx => (hv v hx).2)
  refine (readKey_any _ W (by omega)).mono fun e w' ⟨⟨k1, k2⟩, hb⟩ => ?_
  obtain ⟨v, he, ho⟩ := k1 (by rw [hk])
  rw [hk] at ho
  exact ⟨v, he, ho, hb⟩
theorem backR (vs : List (Int × Int × ByteArray)) (hm : mayB vs = true) (hv : wfV vs) (W : World) : Calls Try.prog 11 #[.string (strOfNums (rowAll vs))] W fun e w' => ∃ v, e = .returned (.tuple #[v, .int .i64 0]) ∧ ownV w' W.heap.size v vs ∧ Below W.heap.size W w' := by
  obtain ⟨f1, f2, f3⟩ := may_true vs hm
  have hc : ∀ v ∈ vs, canV v := fun v hx => canV_of v (f3 v hx) (hv v hx).2.1 (hv v hx).2.2
  have hz := rowAll_fits vs f1 hc
  have hk := rrL_row vs f2 (by omega) (fun v hx => (hv v hx).2)
  refine (readRow_any _ W (by omega)).mono fun e w' ⟨⟨k1, k2⟩, hb⟩ => ?_
  obtain ⟨v, he, ho⟩ := k1 (by rw [hk])
  rw [hk] at ho
  exact ⟨v, he, ho, hb⟩
theorem may_tail (vs : List (Int × Int × ByteArray)) (hm : mayB vs = true) : mayB vs.tail = true := by
  unfold mayB at hm ⊢
  simp only [Bool.and_eq_true, decide_eq_true_eq, List.all_eq_true] at hm ⊢
  exact ⟨by have := hm.1; rw [List.length_tail]; omega, fun v hv => hm.2 v (List.mem_of_mem_tail hv)⟩
/-- The rest of a list that is seen. -/
theorem SeesV.tail {w : World} {B : Nat} {ao : Option Addr} {cap : Nat} {vs : List (Int × Int × ByteArray)} (h : SeesV w B (.slice ao vs.length cap) vs) (h0 : 0 < vs.length) : ∃ b off, ao = some ⟨b, off, none⟩ ∧ SeesV w B (.slice (some ⟨b, off + 3, none⟩) (vs.length - 1) (cap - 1)) vs.tail := by
  obtain ⟨ao', cap', e, h1, h2, h3⟩ := h
  simp only [Value.slice.injEq] at e
  obtain ⟨rfl, _, rfl⟩ := e
  obtain ⟨b, off, rfl, hb, _⟩ := h3 0 h0
  refine ⟨b, off, rfl, ⟨_, _, by rw [List.length_tail], by rw [List.length_tail]; omega, by rw [List.length_tail]; omega, fun i hi => ?_⟩⟩
  rw [List.length_tail] at hi
  obtain ⟨b', off', e, hb', c0, c1, c2⟩ := h3 (i + 1) (by omega)
  injection e with e
  injection e with e1 e2
  subst e1 e2
  refine ⟨b, off + 3, rfl, hb', ?_, ?_, ?_⟩
  · rw [List.getElem_tail, show off + 3 + i * 3 = off + (i + 1) * 3 by omega]; exact c0
  · rw [List.getElem_tail, show off + 3 + i * 3 + 1 = off + (i + 1) * 3 + 1 by omega]; exact c1
  · rw [List.getElem_tail, show off + 3 + i * 3 + 2 = off + (i + 1) * 3 + 2 by omega]; exact c2
theorem sees_lt {w : World} {B : Nat} {v : Value} {vs : List (Int × Int × ByteArray)} (h : SeesV w B v vs) (h0 : 0 < vs.length) : ∀ b, v.ownBlock = some b → b < B := by
  obtain ⟨ao, cap, rfl, h1, h2, h3⟩ := h
  obtain ⟨b, off, rfl, hb, _⟩ := h3 0 h0
  intro b' e
  simp [Value.ownBlock] at e
  omega
theorem tail_one {w : World} {B : Nat} {ao : Option Addr} {vs : List (Int × Int × ByteArray)} (h : SeesV w B (.slice ao vs.length 1) vs) (h0 : 0 < vs.length) : SeesV w B (.slice ao (vs.length - 1) 0) vs.tail := by
  obtain ⟨ao', cap', e, h1, h2, h3⟩ := h
  simp only [Value.slice.injEq] at e
  obtain ⟨rfl, _, rfl⟩ := e
  exact ⟨ao, 0, by rw [List.length_tail], by rw [List.length_tail]; omega, by rw [List.length_tail]; omega, fun i hi => by rw [List.length_tail] at hi; omega⟩
theorem tail_more {w : World} {B : Nat} {ao : Option Addr} {cap : Nat} {vs : List (Int × Int × ByteArray)} (h : SeesV w B (.slice ao vs.length cap) vs) (h0 : 0 < vs.length) : SeesV w B (.slice (Option.map (fun x => (⟨x.block, x.off + 3, none⟩ : Addr)) ao) (vs.length - 1) (cap - 1)) vs.tail := by
  obtain ⟨b, off, rfl, hs⟩ := h.tail h0
  exact hs
theorem slice_of {w : World} {B : Nat} {v : Value} {vs : List (Int × Int × ByteArray)} (h : ownV w B v vs) : ∃ ao cap, v = .slice ao vs.length cap := by
  rcases h.shape with ⟨e, e2⟩ | ⟨g, cap, e, _⟩
  · exact ⟨none, 0, by rw [e, e2]; rfl⟩
  · exact ⟨_, cap, e⟩
set_option maxRecDepth 100000 in
set_option maxHeartbeats 6400000 in
theorem given_walk (a : Value) (vs : List (Int × Int × ByteArray)) (w : World) (ha : SeesV w w.heap.size a vs) (hr : (vs.length + 1) * 32 ≤ 140737488355328) (hv : wfV vs) :
    Calls Try.prog 4 #[a] w fun e w' => e = .returned (.bool true) ∧ Below w.heap.size w w' := by
  have HA : Hid (SeesV w w.heap.size a vs) := ha
  obtain ⟨ao, capa, rfl, hla, hca, hsa⟩ := ha
  clear hsa
  have HV : Hid (wfV vs) := hv
  clear hv
  go_enter Try.func4, Try.ntmps4
  go_wp2_with fail
  refine (room_any _ vs w.heap.size w (Nat.le_refl _) HA.out hr).mono ?_
  rintro e w3 ⟨g1, cap1, rfl, ho1, hb1⟩
  have n1 : vs.length + 1 ≤ cap1 := by
    rcases ho1.2 with ⟨h', _⟩ | ⟨g', cap', cur, h', _, _, hnc, _⟩
    · simp at h'
    · simp only [Value.slice.injEq] at h'; rw [markV_len] at hnc; omega
  have B3 : Hid (Below w.heap.size w w3) := hb1
  have C1 : Hid (SeesV w3 w3.heap.size (.slice (some ⟨g1, 0, none⟩) vs.length cap1) vs) := ho1.sees (us := vs) (by simp) (take_front vs) (by simp) (by omega)
  clear hb1 ho1
  have p1 : (vs.length : Int) ≤ (cap1 : Int) := by omega
  have p3 : vs.length ≤ cap1 := by omega
  have p5 : (0 : Int) ≤ (vs.length : Int) := by omega
  go_wp2_with fail
  refine (keyR _ vs w3 C1.out HV.out).mono ?_
  rintro e w4 ⟨S, cs, rfl, hb4, hS1, hS2⟩
  have B4 : Hid (Below w.heap.size w w4) := B3.out.trans (hb4.mono B3.out.size)
  have HS1 : Hid _ := hS1
  have HS2 : Hid _ := hS2
  clear hb4 B3 C1 n1 p1 p3 hS1 hS2
  go_wp2_with fail
  refine (room_any _ vs w.heap.size w4 B4.out.size (HA.out.later B4.out) hr).mono ?_
  rintro e w5 ⟨g2, cap2, rfl, ho1, hb1⟩
  have n1 : vs.length + 1 ≤ cap2 := by
    rcases ho1.2 with ⟨h', _⟩ | ⟨g', cap', cur, h', _, _, hnc, _⟩
    · simp at h'
    · simp only [Value.slice.injEq] at h'; rw [markV_len] at hnc; omega
  have B5 : Hid (Below w.heap.size w w5) := B4.out.trans (hb1.mono B4.out.size)
  have C2 : Hid (SeesV w5 w5.heap.size (.slice (some ⟨g2, 0, none⟩) vs.length cap2) vs) := ho1.sees (us := vs) (by simp) (take_front vs) (by simp) (by omega)
  clear hb1 ho1 B4
  have p1 : (vs.length : Int) ≤ (cap2 : Int) := by omega
  have p3 : vs.length ≤ cap2 := by omega
  go_wp2_with fail
  refine (rowR _ vs w5 C2.out HV.out).mono ?_
  rintro e w6 ⟨T, ct, rfl, hb6, hT1, hT2⟩
  have B6 : Hid (Below w.heap.size w w6) := B5.out.trans (hb6.mono B5.out.size)
  have HT1 : Hid _ := hT1
  have HT2 : Hid _ := hT2
  clear hb6 B5 C2 n1 p1 p3 hT1 hT2
  go_wp2_with fail
  refine (may_any _ vs w.heap.size w6 B6.out.size (HA.out.later B6.out) (fun v h => (HV.out v h).1)).mono ?_
  rintro e w7 ⟨rfl, hb7⟩
  have B7 : Hid (Below w.heap.size w w7) := B6.out.trans hb7
  clear hb7 B6
  cases hm : mayB vs
  · obtain ⟨rfl, q1⟩ := HS2.out hm
    obtain ⟨rfl, q2⟩ := HT2.out hm
    clear HS1 HS2 HT1 HT2 hm
    go_wp2_with (go_at_call 9; refine (num_any _ _).mono ?_; rintro e w' ⟨rfl, rfl⟩)
    go_ret
    exact ⟨rfl, B7.out⟩
  · obtain ⟨rfl, rfl⟩ := HS1.out hm
    obtain ⟨rfl, rfl⟩ := HT1.out hm
    have HM : Hid (mayB vs = true) := hm
    clear HS1 HS2 HT1 HT2 hm
    go_wp2_with (go_at_call 9; refine (num_any _ _).mono ?_; rintro e w' ⟨rfl, rfl⟩)
    have hle16 := (may_true vs HM.out).1
    have BK : Hid (∀ W, Calls Try.prog 8 #[.string (strOfNums (keyL vs))] W fun e w' => ∃ v, e = .returned (.tuple #[v, .int .i64 0]) ∧ ownV w' W.heap.size v vs ∧ Below W.heap.size W w') := backK vs HM.out HV.out
    have BR : Hid (∀ W, Calls Try.prog 11 #[.string (strOfNums (rowAll vs))] W fun e w' => ∃ v, e = .returned (.tuple #[v, .int .i64 0]) ∧ ownV w' W.heap.size v vs ∧ Below W.heap.size W w') := backR vs HM.out HV.out
    have hwt : wfV vs.tail := fun v hv => HV.out v (List.mem_of_mem_tail hv)
    have BT : Hid (∀ W, Calls Try.prog 8 #[.string (strOfNums (keyL vs.tail))] W fun e w' => ∃ v, e = .returned (.tuple #[v, .int .i64 0]) ∧ ownV w' W.heap.size v vs.tail ∧ Below W.heap.size W w') := backK vs.tail (may_tail vs HM.out) hwt
    have KT : Hid (∀ W v, SeesV W W.heap.size v vs.tail → Calls Try.prog 7 #[v] W fun e w' => e = .returned (.tuple #[.string (strOfNums (keyL vs.tail)), .int .i64 0]) ∧ Below W.heap.size W w') := fun W v hs => (keyR v vs.tail W hs hwt).mono fun e w' ⟨S, c, he, hb, h1, _⟩ => by
      obtain ⟨rfl, rfl⟩ := h1 (may_tail vs HM.out)
      exact ⟨he, hb⟩
    have SM : Hid (∀ W (a b : Value) us, us.length ≤ 16 → SeesV W W.heap.size a us → SeesV W W.heap.size b us → Calls Try.prog 15 #[a, b] W fun e w' => e = .returned (.bool true) ∧ Below W.heap.size W w') := fun W a b us hl h1 h2 => (same_any a b us us W.heap.size W (Nat.le_refl _) h1 h2).mono fun e w' ⟨he, hb⟩ => ⟨by rw [he, decide_eq_true rfl], hb⟩
    clear hwt
    generalize strOfNums (keyL vs) = K at *
    generalize strOfNums (rowAll vs) = R at *
    generalize strOfNums (keyL vs.tail) = U at *
    go_loopw [7, 8] (fun c i wr => ∃ (k : Nat) (kl : List (Value × List (Int × Int × ByteArray))), k ≤ 4 ∧ i = .int .i64 (k : Int) ∧ kl.length ≤ 3 * k ∧ KS wr w.heap.size c kl ∧ Below w.heap.size w wr) (fun _ i _ => 4 - (intOf i).toNat)
    case atStart => exact ⟨0, [], by omega, rfl, by simp, ⟨ownR_nil _ _, by simp, by simp, by simp, List.Pairwise.nil⟩, B7.out⟩
    case round =>
      obtain ⟨k, kl, hk, rfl, hkl, hks, hbel⟩ := hrel
      have HK : Hid (KS wr w.heap.size _ kl) := hks
      have HB : Hid (Below w.heap.size w wr) := hbel
      clear hks hbel B7
      by_cases h4 : k < 4
      · have h4' : (k : Int) < 4 := by omega
        go_wp2_with fail
        refine (BK.out wr).mono ?_
        rintro e w1 ⟨va, rfl, oa, ba⟩
        have OA1 : Hid (ownV w1 wr.heap.size va vs) := oa
        have BA : Hid (Below wr.heap.size wr w1) := ba
        clear oa ba
        go_wp2_with fail
        refine (BR.out w1).mono ?_
        rintro e w2 ⟨vb, rfl, ob, bb⟩
        have OB2 : Hid (ownV w2 w1.heap.size vb vs) := ob
        have BB : Hid (Below w1.heap.size w1 w2) := bb
        have OA2 : Hid (ownV w2 wr.heap.size va vs) := OA1.out.same fun k hk _ => bb.block k hk
        have HB2 : Hid (Below w.heap.size w w2) := (HB.out.trans (BA.out.mono HB.out.size)).trans (bb.mono (Nat.le_trans HB.out.size BA.out.size))
        have HK2 : Hid (KS w2 w.heap.size _ kl) := (HK.out.step BA.out).step bb
        have FA : Hid ((∀ b, va.ownBlock = some b → wr.heap.size ≤ b ∧ b < w1.heap.size) ∧ (∀ b, vb.ownBlock = some b → w1.heap.size ≤ b)) := ⟨fun b e => OA1.out.lt b e, fun b e => (OB2.out.lt b e).1⟩
        have FK : Hid (wr.heap.size ≤ w1.heap.size ∧ w.heap.size ≤ wr.heap.size) := ⟨BA.out.size, HB.out.size⟩
        clear ob bb OA1 BA BB
        go_wp2_with (go_at_call 9; refine (num_any _ _).mono ?_; rintro e w' ⟨rfl, rfl⟩)
        refine (SM.out _ va _ vs (by omega) (OA2.out.seesAll (by omega)) ((HA.out.later HB2.out).mono HB2.out.size)).mono ?_
        rintro e w3 ⟨rfl, h3⟩
        have HK3 : Hid (KS w3 w.heap.size _ kl) := HK2.out.step h3
        have OA3 : Hid (ownV w3 wr.heap.size va vs) := OA2.out.same fun k hk _ => h3.block k hk
        have OB3 : Hid (ownV w3 w1.heap.size vb vs) := OB2.out.same fun k hk _ => h3.block k hk
        have HB3 : Hid (Below w.heap.size w w3) := HB2.out.trans (h3.mono HB2.out.size)
        clear h3 HK2 OA2 OB2 HB2
        go_wp2_with fail
        refine (SM.out w3 vb _ vs (by omega) (OB3.out.seesAll (by omega)) ((HA.out.later HB3.out).mono HB3.out.size)).mono ?_
        rintro e w4 ⟨rfl, h3⟩
        have HK4 : Hid (KS w4 w.heap.size _ kl) := HK3.out.step h3
        have OA4 : Hid (ownV w4 wr.heap.size va vs) := OA3.out.same fun k hk _ => h3.block k hk
        have OB4 : Hid (ownV w4 w1.heap.size vb vs) := OB3.out.same fun k hk _ => h3.block k hk
        have HB4 : Hid (Below w.heap.size w w4) := HB3.out.trans (h3.mono HB3.out.size)
        clear h3 HK3 OA3 OB3 HB3
        obtain ⟨aa, ca, rfl⟩ := slice_of OA4.out
        obtain ⟨ab, cb, rfl⟩ := slice_of OB4.out
        have hrl : (kl.map (·.1)).length ≤ 1048576 := by rw [List.length_map]; omega
        have PU : Hid (∀ kv' w5, ownR w5 w.heap.size kv' (kl.map (·.1) ++ [.slice aa vs.length ca, .slice ab vs.length cb]) → Gr _ w4 kv' w5 → KS w5 w.heap.size kv' (kl ++ [(.slice aa vs.length ca, vs), (.slice ab vs.length cb, vs)])) := fun kv' w5 hr hg => by
          obtain ⟨fa, fb⟩ := FA.out
          obtain ⟨s1, s0⟩ := FK.out
          have hold : ∀ b, b ∈ (kl.map (·.1)).filterMap Value.ownBlock → b < wr.heap.size := fun b hb => by
            obtain ⟨v, hv, hvb⟩ := List.mem_filterMap.1 hb
            obtain ⟨p, hp, rfl⟩ := List.mem_map.1 hv
            exact ((HK.out.own p hp).lt b hvb).2
          have hkv := fun b hb => (HK.out.row.lt b hb).2
          refine HK4.out.push (ns := [(.slice aa vs.length ca, vs), (.slice ab vs.length cb, vs)]) hr hg ?_ ?_ ?_ ?_ ?_
          · intro p hp
            simp only [List.mem_cons, List.not_mem_nil, or_false] at hp
            rcases hp with rfl | rfl
            · exact OA4.out.down s0
            · exact OB4.out.down (by omega)
          · intro p hp
            simp only [List.mem_cons, List.not_mem_nil, or_false] at hp
            rcases hp with rfl | rfl <;> (simp only; omega)
          · intro p hp b hb e
            have := hkv b e
            simp only [List.mem_cons, List.not_mem_nil, or_false] at hp
            rcases hp with rfl | rfl
            · have := (fa b hb).1; omega
            · have := fb b hb; omega
          · refine List.Pairwise.cons ?_ (List.Pairwise.cons (by simp) List.Pairwise.nil)
            intro q hq b hb e
            simp only [List.mem_cons, List.not_mem_nil, or_false] at hq
            subst hq
            have := (fa b hb).2
            have := fb b e
            omega
          · intro p hp q hq b hb e
            have h1 := ((HK.out.own p hp).lt b hb).2
            simp only [List.mem_cons, List.not_mem_nil, or_false] at hq
            rcases hq with rfl | rfl
            · have := (fa b e).1; omega
            · have := fb b e; omega
        go_wp2_with (at_builtin; refine app_row [.slice aa vs.length ca, .slice ab vs.length cb] (by simp) (by simp) (by intro u hu; simp at hu; rcases hu with rfl | rfl <;> rfl) (by rfl) (by rfl) _ _ (by rfl) w.heap.size _ (kl.map (·.1)) HK4.out.row (by rfl) (by rfl) hrl HB4.out.size ?_; intro v' w5 hr5 hg5 hb5; have HK5 : Hid (KS w5 w.heap.size v' (kl ++ [(.slice aa vs.length ca, vs), (.slice ab vs.length cb, vs)])) := PU.out v' w5 hr5 hg5; have HB5 : Hid (Below w.heap.size w w5) := HB4.out.trans hb5; clear hr5 hg5 hb5 PU HK4 HB4 OA4 OB4 FA FK HK)
        · have c5 : 0 < vs.length := by omega
          have HTS : Hid (∀ W, Below w.heap.size w W → SeesV W W.heap.size _ vs.tail) := fun W hW => tail_one (by have h9 := (HA.out.later hW).mono hW.size; rw [h] at h9; exact h9) c5
          have htl : vs.tail.length ≤ 16 := by rw [List.length_tail]; omega
          refine (KT.out w5 _ (HTS.out w5 HB5.out)).mono ?_
          rintro e w6 ⟨rfl, h6⟩
          have HK6 : Hid (KS w6 w.heap.size _ _) := HK5.out.step h6
          have HB6 : Hid (Below w.heap.size w w6) := HB5.out.trans (h6.mono HB5.out.size)
          clear h6 HK5 HB5
          go_wp2_with fail
          refine (BT.out w6).mono ?_
          rintro e w7 ⟨vc, rfl, oc, bc⟩
          have HK7 : Hid (KS w7 w.heap.size _ _) := HK6.out.step bc
          have HB7 : Hid (Below w.heap.size w w7) := HB6.out.trans (bc.mono HB6.out.size)
          have OC7 : Hid (ownV w7 w6.heap.size vc vs.tail) := oc
          have FC : Hid (w.heap.size ≤ w6.heap.size) := HB6.out.size
          clear oc bc HB6
          go_wp2_with (go_at_call 9; refine (num_any _ _).mono ?_; rintro e w' ⟨rfl, rfl⟩)
          refine (SM.out _ vc _ vs.tail htl (OC7.out.seesAll (by omega)) (HTS.out _ HB7.out)).mono ?_
          rintro e w8 ⟨rfl, h8⟩
          have HK8 : Hid (KS w8 w.heap.size _ _) := HK7.out.step h8
          have HB8 : Hid (Below w.heap.size w w8) := HB7.out.trans (h8.mono HB7.out.size)
          have OC8 : Hid (ownV w8 w6.heap.size vc vs.tail) := OC7.out.same fun k hk _ => h8.block k hk
          clear h8 HK7 HB7 OC7 HTS
          obtain ⟨ac, cc, ec⟩ := slice_of OC8.out
          rw [List.length_tail] at ec
          subst ec
          have hrl2 : ((kl ++ [(Value.slice aa vs.length ca, vs), (Value.slice ab vs.length cb, vs)]).map (·.1)).length ≤ 1048576 := by simp; omega
          have PU : Hid (∀ kv' w9, ownR w9 w.heap.size kv' ((kl ++ [(Value.slice aa vs.length ca, vs), (Value.slice ab vs.length cb, vs)]).map (·.1) ++ [.slice ac (vs.length - 1) cc]) → Gr _ w8 kv' w9 → KS w9 w.heap.size kv' ((kl ++ [(Value.slice aa vs.length ca, vs), (Value.slice ab vs.length cb, vs)]) ++ [(.slice ac (vs.length - 1) cc, vs.tail)])) := fun kv' w9 hr hg => by
            refine HK8.out.push (ns := [(.slice ac (vs.length - 1) cc, vs.tail)]) hr hg ?_ ?_ ?_ ?_ ?_
            · intro p hp
              simp only [List.mem_cons, List.not_mem_nil, or_false] at hp
              subst hp
              exact OC8.out.down FC.out
            · intro p hp
              simp only [List.mem_cons, List.not_mem_nil, or_false] at hp
              subst hp
              exact htl
            · intro p hp b hb e
              simp only [List.mem_cons, List.not_mem_nil, or_false] at hp
              subst hp
              have := (OC8.out.lt b hb).1
              have := (HK6.out.row.lt b e).2
              omega
            · exact List.Pairwise.cons (by simp) List.Pairwise.nil
            · intro p hp q hq b hb e
              simp only [List.mem_cons, List.not_mem_nil, or_false] at hq
              subst hq
              have := (OC8.out.lt b e).1
              have := ((HK6.out.own p hp).lt b hb).2
              omega
          go_wp2_with (at_builtin; refine app_row [.slice ac (vs.length - 1) cc] (by simp) (by simp) (by intro u hu; simp at hu; subst hu; rfl) (by rfl) (by rfl) _ _ (by rfl) w.heap.size _ _ HK8.out.row (by rfl) (by rfl) hrl2 HB8.out.size ?_; intro v9 w9 hr9 hg9 hb9; have HK9 : Hid (KS w9 w.heap.size v9 _) := PU.out v9 w9 hr9 hg9; have HB9 : Hid (Below w.heap.size w w9) := HB8.out.trans hb9; clear hr9 hg9 hb9)
          subst h
          go_roundw
          case rel => exact ⟨2, _, by omega, rfl, by simp; omega, HK9.out, HB9.out⟩
          case measure => simp [intOf]; omega
        · have c5 : 0 < vs.length := by omega
          have HTS : Hid (∀ W, Below w.heap.size w W → SeesV W W.heap.size _ vs.tail) := fun W hW => tail_more ((HA.out.later hW).mono hW.size) c5
          have htl : vs.tail.length ≤ 16 := by rw [List.length_tail]; omega
          refine (KT.out w5 _ (HTS.out w5 HB5.out)).mono ?_
          rintro e w6 ⟨rfl, h6⟩
          have HK6 : Hid (KS w6 w.heap.size _ _) := HK5.out.step h6
          have HB6 : Hid (Below w.heap.size w w6) := HB5.out.trans (h6.mono HB5.out.size)
          clear h6 HK5 HB5
          go_wp2_with fail
          refine (BT.out w6).mono ?_
          rintro e w7 ⟨vc, rfl, oc, bc⟩
          have HK7 : Hid (KS w7 w.heap.size _ _) := HK6.out.step bc
          have HB7 : Hid (Below w.heap.size w w7) := HB6.out.trans (bc.mono HB6.out.size)
          have OC7 : Hid (ownV w7 w6.heap.size vc vs.tail) := oc
          have FC : Hid (w.heap.size ≤ w6.heap.size) := HB6.out.size
          clear oc bc HB6
          go_wp2_with (go_at_call 9; refine (num_any _ _).mono ?_; rintro e w' ⟨rfl, rfl⟩)
          refine (SM.out _ vc _ vs.tail htl (OC7.out.seesAll (by omega)) (HTS.out _ HB7.out)).mono ?_
          rintro e w8 ⟨rfl, h8⟩
          have HK8 : Hid (KS w8 w.heap.size _ _) := HK7.out.step h8
          have HB8 : Hid (Below w.heap.size w w8) := HB7.out.trans (h8.mono HB7.out.size)
          have OC8 : Hid (ownV w8 w6.heap.size vc vs.tail) := OC7.out.same fun k hk _ => h8.block k hk
          clear h8 HK7 HB7 OC7 HTS
          obtain ⟨ac, cc, ec⟩ := slice_of OC8.out
          rw [List.length_tail] at ec
          subst ec
          have hrl2 : ((kl ++ [(Value.slice aa vs.length ca, vs), (Value.slice ab vs.length cb, vs)]).map (·.1)).length ≤ 1048576 := by simp; omega
          have PU : Hid (∀ kv' w9, ownR w9 w.heap.size kv' ((kl ++ [(Value.slice aa vs.length ca, vs), (Value.slice ab vs.length cb, vs)]).map (·.1) ++ [.slice ac (vs.length - 1) cc]) → Gr _ w8 kv' w9 → KS w9 w.heap.size kv' ((kl ++ [(Value.slice aa vs.length ca, vs), (Value.slice ab vs.length cb, vs)]) ++ [(.slice ac (vs.length - 1) cc, vs.tail)])) := fun kv' w9 hr hg => by
            refine HK8.out.push (ns := [(.slice ac (vs.length - 1) cc, vs.tail)]) hr hg ?_ ?_ ?_ ?_ ?_
            · intro p hp
              simp only [List.mem_cons, List.not_mem_nil, or_false] at hp
              subst hp
              exact OC8.out.down FC.out
            · intro p hp
              simp only [List.mem_cons, List.not_mem_nil, or_false] at hp
              subst hp
              exact htl
            · intro p hp b hb e
              simp only [List.mem_cons, List.not_mem_nil, or_false] at hp
              subst hp
              have := (OC8.out.lt b hb).1
              have := (HK6.out.row.lt b e).2
              omega
            · exact List.Pairwise.cons (by simp) List.Pairwise.nil
            · intro p hp q hq b hb e
              simp only [List.mem_cons, List.not_mem_nil, or_false] at hq
              subst hq
              have := (OC8.out.lt b e).1
              have := ((HK6.out.own p hp).lt b hb).2
              omega
          go_wp2_with (at_builtin; refine app_row [.slice ac (vs.length - 1) cc] (by simp) (by simp) (by intro u hu; simp at hu; subst hu; rfl) (by rfl) (by rfl) _ _ (by rfl) w.heap.size _ _ HK8.out.row (by rfl) (by rfl) hrl2 HB8.out.size ?_; intro v9 w9 hr9 hg9 hb9; have HK9 : Hid (KS w9 w.heap.size v9 _) := PU.out v9 w9 hr9 hg9; have HB9 : Hid (Below w.heap.size w w9) := HB8.out.trans hb9; clear hr9 hg9 hb9)
          refine ⟨⟨2, _, by omega, rfl, ?_, HK9.out, HB9.out⟩, ?_⟩
          · simp; omega
          · simp [intOf]; omega
        · exact ⟨⟨2, _, by omega, rfl, by simp; omega, HK5.out, HB5.out⟩, by simp [intOf]; omega⟩
        · exact ⟨⟨k + 1, _, by omega, by go_num, by simp; omega, HK5.out, HB5.out⟩, by simp [intOf]; omega⟩
      · have e4 : k = 4 := by omega
        subst e4
        have KCn : Hid (KC wr.heap.size _ kl) := HK.out.const
        have KM0 : Hid (KM wr w.heap.size wr.heap.size _ (.slice none 0 0) kl [] 0) := HK.out.start
        obtain ⟨ko, kcap, ekv, hkcap, hkc⟩ := HK.out.row.len
        rw [List.length_map] at ekv hkcap
        subst ekv
        clear hkc HK
        have hn4 : ¬ (4 : Int) < 4 := by omega
        have hwM : w.heap.size ≤ wr.heap.size := HB.out.size
        go_wp2_with fail
        generalize wr = W1 at *
        go_loopw [17, 18] (fun gv i wr => ∃ (k : Nat) (gl : List Value), k ≤ kl.length ∧ i = .int .i64 (k : Int) ∧ KM wr w.heap.size W1.heap.size (.slice ko kl.length kcap) gv kl gl k ∧ Below w.heap.size w wr) (fun _ i _ => kl.length - (intOf i).toNat)
        case atStart => exact ⟨0, [], by omega, rfl, KM0.out, HB.out⟩
        case round =>
          obtain ⟨k, gl, hk1, rfl, hkm, hbel⟩ := hrel
          have HKM : Hid (KM wr w.heap.size W1.heap.size (.slice ko kl.length kcap) _ kl gl k) := hkm
          have HB1 : Hid (Below w.heap.size w wr) := hbel
          clear hkm hbel KM0
          obtain ⟨ko', kcap', ekv, hkcap', hkc⟩ := HKM.out.row.len
          rw [List.length_map] at ekv
          simp only [Value.slice.injEq] at ekv
          obtain ⟨rfl, _, rfl⟩ := ekv
          by_cases h5 : k < kl.length
          · obtain ⟨kb, rfl, hkb⟩ := hkc k (by rw [List.length_map]; exact h5)
            rw [List.getElem_map] at hkb
            have h5' : (k : Int) < (kl.length : Int) := by omega
            have hMw : w.heap.size ≤ wr.heap.size := HB1.out.size
            have MK : Hid (∀ _ : Unit, Calls Try.prog 16 #[kl[k].1, .int .i64 ((k : Int) + 1)] wr fun e w' => ∃ g', e = .returned g' ∧ SeesV w' w'.heap.size kl[k].1 (List.replicate kl[k].2.length (mkV ((k : Int) + 1))) ∧ SeesV w' w'.heap.size g' (List.replicate (kl[k].2.length + 1) (mkV ((k : Int) + 1))) ∧ Gr kl[k].1 wr g' w' ∧ Below w.heap.size wr w') := fun _ => marks_any kl[k].1 kl[k].2 w.heap.size wr _ hMw (HKM.out.rest k h5 (Nat.le_refl _)) (KCn.out.few k h5)
            clear hkc
            go_wp2_with fail
            refine (MK.out ()).mono ?_
            rintro e w2 ⟨g', rfl, s1, s2, hg, hb⟩
            have S1 : Hid (SeesV w2 w2.heap.size kl[k].1 (List.replicate kl[k].2.length (mkV ((k : Int) + 1)))) := s1
            have S2 : Hid (SeesV w2 w2.heap.size g' (List.replicate (kl[k].2.length + 1) (mkV ((k : Int) + 1)))) := s2
            have HG : Hid (Gr kl[k].1 wr g' w2) := hg
            have HB2 : Hid (Below w.heap.size w w2) := HB1.out.trans hb
            have HGL : Hid (∀ b, g'.ownBlock = some b → b < w2.heap.size) := sees_lt s2 (by simp)
            obtain ⟨ag, cg, eg⟩ : ∃ ag cg, g' = .slice ag (kl[k].2.length + 1) cg := by
              obtain ⟨ag, cg, e, _⟩ := s2
              rw [List.length_replicate] at e
              exact ⟨ag, cg, e⟩
            have RG : Hid (ownR w2 W1.heap.size _ gl) := HKM.out.grow.same fun b e => hg.far b (HKM.out.grow.lt b e).2 (fun e2 => by have := (HKM.out.grow.lt b e).1; have := KCn.out.low k h5 b e2.symm; omega)
            have hM1 : W1.heap.size ≤ w2.heap.size := Nat.le_trans HKM.out.size hg.size
            have hgl : gl.length ≤ 1048576 := by rw [HKM.out.glen]; omega
            have NX : Hid (∀ gv' w3, ownR w3 W1.heap.size gv' (gl ++ [g']) → Gr _ w2 gv' w3 → KM w3 w.heap.size W1.heap.size (.slice (some ⟨kb, 0, none⟩) kl.length kcap) gv' kl (gl ++ [g']) (k + 1)) := fun gv' w3 hr hg3 => HKM.out.next KCn.out h5 S1.out S2.out HG.out HGL.out hr hg3
            clear s1 s2 hg hb MK HKM S1 S2 HG HGL hkb HB1
            generalize kl[k].2.length + 1 = ng at *
            subst eg
            go_wp2_with (at_builtin; refine app_row [.slice ag ng cg] (by simp) (by simp) (by intro u hu; simp at hu; subst hu; rfl) (by rfl) (by rfl) _ _ (by rfl) W1.heap.size _ gl RG.out (by rfl) (by rfl) hgl hM1 ?_; intro v' w3 hr hg3 hb3; have HN : Hid (KM w3 w.heap.size W1.heap.size (.slice (some ⟨kb, 0, none⟩) kl.length kcap) v' kl (gl ++ [.slice ag ng cg]) (k + 1)) := NX.out v' w3 hr hg3; have HB3 : Hid (Below w.heap.size w w3) := HB2.out.trans (hb3.mono hwM); clear hr hg3 hb3)
            go_roundw
            case rel => exact ⟨k + 1, _, by omega, by go_num, HN.out, HB3.out⟩
            case measure => simp [intOf]; omega
          · have e5 : k = kl.length := by omega
            subst e5
            have hlt : ¬ ((kl.length : Nat) : Int) < ((kl.length : Nat) : Int) := by omega
            obtain ⟨go', gcap, egv, hgcap, hgc⟩ := HKM.out.grow.len
            rw [HKM.out.glen] at egv
            subst egv
            clear hkc hgc
            go_wp2_with fail
            go_loopw [19] (fun i wr => ∃ k : Nat, k ≤ kl.length ∧ i = .int .i64 (k : Int) ∧ KM wr w.heap.size W1.heap.size (.slice ko kl.length kcap) (.slice go' kl.length gcap) kl gl kl.length ∧ Below w.heap.size w wr) (fun i _ => kl.length - (intOf i).toNat)
            case atStart => exact ⟨0, by omega, rfl, HKM.out, HB1.out⟩
            case round =>
              obtain ⟨k, hk2, rfl, hkm, hbel⟩ := hrel
              have HKM2 : Hid (KM wr w.heap.size W1.heap.size (.slice ko kl.length kcap) (.slice go' kl.length gcap) kl gl kl.length) := hkm
              have HB2 : Hid (Below w.heap.size w wr) := hbel
              clear hkm hbel HKM HB1
              by_cases h6 : k < kl.length
              · have hgk : k < gl.length := by rw [HKM2.out.glen]; exact h6
                obtain ⟨d1, d2⟩ := HKM2.out.done k h6 hgk
                obtain ⟨ko', kcap', ekv, _, hkc⟩ := HKM2.out.row.len
                rw [List.length_map] at ekv
                simp only [Value.slice.injEq] at ekv
                obtain ⟨rfl, _, rfl⟩ := ekv
                obtain ⟨kb, rfl, hkb⟩ := hkc k (by rw [List.length_map]; exact h6)
                rw [List.getElem_map] at hkb
                have h6' : (k : Int) < (kl.length : Int) := by omega
                have MA : Hid (∀ _ : Unit, Calls Try.prog 17 #[kl[k].1, .int .i64 ((k : Int) + 1)] wr fun e w' => e = .returned (.bool true) ∧ Below wr.heap.size wr w') := fun _ => marked_any _ _ _ wr.heap.size wr (Nat.le_refl _) d1
                clear hkc d1 d2
                go_wp2_with fail
                refine (MA.out ()).mono ?_
                rintro e w2 ⟨rfl, hb⟩
                have HKM3 : Hid (KM w2 w.heap.size W1.heap.size (.slice (some ⟨kb, 0, none⟩) kl.length kcap) (.slice go' kl.length gcap) kl gl kl.length) := HKM2.out.step KCn.out hb
                have HB3 : Hid (Below w.heap.size w w2) := HB2.out.trans (hb.mono HB2.out.size)
                clear hb HKM2 HB2 MA hkb
                obtain ⟨_, d2⟩ := HKM3.out.done k h6 hgk
                obtain ⟨go2, gcap2, egv, _, hgc⟩ := HKM3.out.grow.len
                rw [HKM3.out.glen] at egv
                simp only [Value.slice.injEq] at egv
                obtain ⟨rfl, _, rfl⟩ := egv
                obtain ⟨gb, rfl, hgb⟩ := hgc k hgk
                have MB : Hid (∀ _ : Unit, Calls Try.prog 17 #[gl[k], .int .i64 ((k : Int) + 1)] w2 fun e w' => e = .returned (.bool true) ∧ Below w2.heap.size w2 w') := fun _ => marked_any _ _ _ w2.heap.size w2 (Nat.le_refl _) d2
                clear hgc d2
                go_wp2_with fail
                refine (MB.out ()).mono ?_
                rintro e w3 ⟨rfl, hb⟩
                have HKM4 : Hid (KM w3 w.heap.size W1.heap.size (.slice (some ⟨kb, 0, none⟩) kl.length kcap) (.slice (some ⟨gb, 0, none⟩) kl.length gcap) kl gl kl.length) := HKM3.out.step KCn.out hb
                have HB4 : Hid (Below w.heap.size w w3) := HB3.out.trans (hb.mono HB3.out.size)
                clear hb HKM3 HB3 MB hgb
                go_wp2
                go_roundw
                case rel => exact ⟨k + 1, by omega, by go_num, HKM4.out, HB4.out⟩
                case measure => simp [intOf]; omega
              · have h6' : ¬ (k : Int) < (kl.length : Int) := by omega
                clear HKM2 KCn
                go_wp2_with fail
                refine (BK.out wr).mono ?_
                rintro e w2 ⟨va, rfl, oa, ba⟩
                have OA : Hid (ownV w2 wr.heap.size va vs) := oa
                have HB3 : Hid (Below w.heap.size w w2) := HB2.out.trans (ba.mono HB2.out.size)
                clear oa ba HB2
                go_wp2_with fail
                refine (BR.out w2).mono ?_
                rintro e w3 ⟨vb, rfl, ob, bb⟩
                have OB : Hid (ownV w3 w2.heap.size vb vs) := ob
                have OA3 : Hid (ownV w3 wr.heap.size va vs) := OA.out.same fun k hk _ => bb.block k hk
                have HB4 : Hid (Below w.heap.size w w3) := HB3.out.trans (bb.mono HB3.out.size)
                clear ob bb HB3 OA
                go_wp2_with (go_at_call 9; refine (num_any _ _).mono ?_; rintro e w' ⟨rfl, rfl⟩)
                refine (SM.out _ va _ vs (by omega) (OA3.out.seesAll (by omega)) ((HA.out.later HB4.out).mono HB4.out.size)).mono ?_
                rintro e w4 ⟨rfl, h3⟩
                have OB4 : Hid (ownV w4 w2.heap.size vb vs) := OB.out.same fun k hk _ => h3.block k hk
                have HB5 : Hid (Below w.heap.size w w4) := HB4.out.trans (h3.mono HB4.out.size)
                clear h3 OA3 OB HB4
                go_wp2_with fail
                refine (SM.out w4 vb _ vs (by omega) (OB4.out.seesAll (by omega)) ((HA.out.later HB5.out).mono HB5.out.size)).mono ?_
                rintro e w5 ⟨rfl, h3⟩
                have HB6 : Hid (Below w.heap.size w w5) := HB5.out.trans (h3.mono HB5.out.size)
                clear h3 OB4 HB5
                go_wp2
                go_ret
                exact ⟨rfl, HB6.out⟩
end Go.Proofs.Ytfabgoanammaiaa
