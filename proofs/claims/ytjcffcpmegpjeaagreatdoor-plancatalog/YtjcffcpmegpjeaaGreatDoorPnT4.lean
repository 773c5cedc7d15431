import Derived.Test.YtjcffcpmegpjeaaGreatDoorPnA
import Derived.Laws.OwnMore
namespace Go.Proofs.YtjcffcpmegpjeaaGreatDoor
open Go.ChangeShapes Go.WideShapes Go.ChangeAt Go.RowKit
set_option linter.unusedVariables false
set_option maxRecDepth 100000
theorem nameT (n : ByteArray) (w : World) : Calls Tryz.prog 36 #[.string n] w fun e w' => e = .returned (.bool (okNm n)) ∧ w' = w := by
  by_cases h1 : 1 ≤ n.size
  · have h1i : (1 : Int) ≤ (n.size : Int) := by omega
    by_cases h2 : n.size ≤ 32
    · have h2i : (n.size : Int) ≤ 32 := by omega
      have HE : Hid (okNm n = true) := by unfold okNm; rw [decide_eq_true h1, decide_eq_true h2]; rfl
      go_enter Tryz.func36, Tryz.ntmps36
      go_wp2
      go_ret
      exact ⟨by rw [HE.out]; rfl, rfl⟩
    · have h2i : ¬ (n.size : Int) ≤ 32 := by omega
      have HE : Hid (okNm n = false) := by unfold okNm; rw [decide_eq_true h1, decide_eq_false h2]; rfl
      go_enter Tryz.func36, Tryz.ntmps36
      go_wp2
      go_ret
      exact ⟨by rw [HE.out]; rfl, rfl⟩
  · have h1i : ¬ (1 : Int) ≤ (n.size : Int) := by omega
    have HE : Hid (okNm n = false) := by unfold okNm; rw [decide_eq_false h1]; rfl
    go_enter Tryz.func36, Tryz.ntmps36
    go_wp2
    go_ret
    exact ⟨by rw [HE.out]; rfl, rfl⟩
theorem typeT (k : Int) (w : World) : Calls Tryz.prog 72 #[.int .i64 k] w fun e w' => e = .returned (.bool (okTy k)) ∧ w' = w := by
  unfold okTy
  by_cases h1 : k = 1
  · subst h1
    go_enter Tryz.func72, Tryz.ntmps72
    go_wp2
    go_ret
    exact ⟨rfl, rfl⟩
  · have b1 : (k == 1) = false := beq_eq_false_iff_ne.2 h1
    by_cases h2 : k = 2
    · subst h2
      go_enter Tryz.func72, Tryz.ntmps72
      go_wp2
      go_ret
      exact ⟨rfl, rfl⟩
    · have b2 : (k == 2) = false := beq_eq_false_iff_ne.2 h2
      by_cases h3 : k = 3
      · subst h3
        go_enter Tryz.func72, Tryz.ntmps72
        go_wp2
        go_ret
        exact ⟨rfl, rfl⟩
      · have b3 : (k == 3) = false := beq_eq_false_iff_ne.2 h3
        go_enter Tryz.func72, Tryz.ntmps72
        go_wp2
        go_ret
        exact ⟨by rw [decide_eq_false h1, decide_eq_false h2, decide_eq_false h3]; rfl, rfl⟩
def colV (c : CD) : Value := .agg #[.string c.1, .int .i64 c.2.1, .bool c.2.2]
theorem boxC (w : World) (c : CD) : Below w.heap.size w (w.alloc (.cells #[.string c.1, .int .i64 c.2.1, .bool c.2.2] 61)) := (Below.refl _ _).alloc (Nat.le_refl _) _
theorem columnT (c : CD) (w : World) : Calls Tryz.prog 38 #[colV c] w fun e w' => e = .returned (.bool (okCo c)) ∧ Below w.heap.size w w' := by
  unfold okCo colV
  obtain ⟨n, k, b⟩ := c
  have HB : Hid _ := boxC w (n, k, b)
  dsimp only at *
  have HN : Hid (∀ w, _) := fun w => nameT n w
  have HT : Hid (∀ w, _) := fun w => typeT k w
  generalize okNm n = x at *
  generalize okTy k = y at *
  go_enter Tryz.func38, Tryz.ntmps38
  go_wp2_with fail
  refine (HN.out _).mono ?_
  rintro e w1 ⟨rfl, rfl⟩
  rcases x with _ | _
  · go_wp2
    go_ret
    exact ⟨rfl, HB.out⟩
  · go_wp2_with fail
    refine (HT.out _).mono ?_
    rintro e w1 ⟨rfl, rfl⟩
    go_wp2
    go_ret
    exact ⟨by cases y <;> rfl, HB.out⟩
end Go.Proofs.YtjcffcpmegpjeaaGreatDoor

namespace Go.Proofs.YtjcffcpmegpjeaaGreatDoor
open Go.ChangeShapes Go.WideShapes Go.ChangeAt Go.RowKit
set_option linter.unusedVariables false
set_option maxRecDepth 100000
/-- The slice value v holds the columns cs, in blocks below B. -/
def SeesC (w : World) (B : Nat) (v : Value) (cs : List CD) : Prop :=
  ∃ ao cap, v = .slice ao cs.length cap ∧ cs.length ≤ cap ∧ (∀ i (hi : i < cs.length), ∃ b off, ao = some ⟨b, off, none⟩ ∧ b < B ∧ w.cell? ⟨b, off + i * 3, none⟩ = some (.string cs[i].1) ∧ w.cell? ⟨b, off + i * 3 + 1, none⟩ = some (.int .i64 cs[i].2.1) ∧ w.cell? ⟨b, off + i * 3 + 2, none⟩ = some (.bool cs[i].2.2))
theorem SeesC.later {w w' : World} {B : Nat} {v : Value} {cs : List CD} (h : SeesC w B v cs) (hb : Below B w w') : SeesC w' B v cs := by
  obtain ⟨ao, cap, rfl, h1, h3⟩ := h
  refine ⟨ao, cap, rfl, h1, fun i hi => ?_⟩
  obtain ⟨b, off, e, hbB, c0, c1, c2⟩ := h3 i hi
  exact ⟨b, off, e, hbB, by rw [hb.cell hbB]; exact c0, by rw [hb.cell hbB]; exact c1, by rw [hb.cell hbB]; exact c2⟩
theorem SeesC.form {w : World} {B : Nat} {v : Value} {cs : List CD} (h : SeesC w B v cs) : ∃ a cap, v = .slice a cs.length cap := by
  obtain ⟨a, cap, e, _⟩ := h
  exact ⟨a, cap, e⟩
theorem SeesC.cell {w : World} {B n cap : Nat} {a : Option Addr} {cs : List CD} (h : SeesC w B (.slice a n cap) cs) (i : Nat) (hi : i < cs.length) : ∃ b off, a = some ⟨b, off, none⟩ ∧ w.cell? ⟨b, off + i * 3, none⟩ = some (.string cs[i].1) ∧ w.cell? ⟨b, off + i * 3 + 1, none⟩ = some (.int .i64 cs[i].2.1) ∧ w.cell? ⟨b, off + i * 3 + 2, none⟩ = some (.bool cs[i].2.2) := by
  obtain ⟨ao, cap', e, h1, h3⟩ := h
  injection e with e1 e2 e3
  subst e1
  obtain ⟨b, off, e, _, c0, c1, c2⟩ := h3 i hi
  exact ⟨b, off, e, c0, c1, c2⟩
theorem notColT (c : CD) (g : Nat) (w : World) (h : w.cell? ⟨g, 0, none⟩ = some (.func (.func 38) #[] #[])) :
    Calls Tryz.prog 71 #[colV c, .pointer (some ⟨g, 0, none⟩)] w fun e w' => e = .returned (.bool (!okCo c)) ∧ Below w.heap.size w w' := by
  have HC : Hid (∀ w, Calls Tryz.prog 38 #[.agg #[.string c.1, .int .i64 c.2.1, .bool c.2.2]] w _) := fun w => columnT c w
  unfold colV
  have HB : Hid _ := boxC w c
  have hgl : g < w.heap.size := World.block_lt_of_cell? _ _ h
  have hg2 : (w.alloc (.cells #[.string c.1, .int .i64 c.2.1, .bool c.2.2] 61)).cell? ⟨g, 0, none⟩ = some (.func (.func 38) #[] #[]) := by rw [HB.out.cell hgl]; exact h
  generalize okCo c = x at *
  go_enter Tryz.func71, Tryz.ntmps71
  go_wp2_with fail
  refine (HC.out _).mono ?_
  rintro e w1 ⟨rfl, hb⟩
  go_wp2
  go_ret
  exact ⟨rfl, HB.out.trans (hb.mono HB.out.size)⟩
theorem all_step {α : Type} (p : α → Bool) (l : List α) (k : Nat) (h : k < l.length) : (l.drop k).all p = (p l[k] && (l.drop (k + 1)).all p) := by
  rw [List.drop_eq_getElem_cons h, List.all_cons]
set_option maxHeartbeats 2000000 in
theorem ixColT (v : Value) (cs : List CD) (g B : Nat) (w : World) (hB : B ≤ w.heap.size) (hv : SeesC w B v cs) (hl : cs.length ≤ 140737488355328) (h : w.cell? ⟨g, 0, none⟩ = some (.func (.func 38) #[] #[])) :
    Calls Tryz.prog 98 #[v, .func (.func 71) #[] #[.pointer (some ⟨g, 0, none⟩)]] w fun e w' => (∃ r : Int, e = .returned (.int .i64 r) ∧ decide (0 ≤ r) = !cs.all okCo) ∧ Below w.heap.size w w' := by
  obtain ⟨a, cap, rfl⟩ := hv.form
  have HV : Hid (SeesC w B (.slice a cs.length cap) cs) := hv
  have hgl : g < w.heap.size := World.block_lt_of_cell? _ _ h
  have HH : Hid (w.cell? ⟨g, 0, none⟩ = some (.func (.func 38) #[] #[])) := h
  clear hv h
  go_enter Tryz.func98, Tryz.ntmps98
  go_wp2
  go_loopw [5, 8] (fun _ x wr => ∃ k : Nat, k ≤ cs.length ∧ x = .int .i64 (k : Int) ∧ cs.all okCo = (cs.drop k).all okCo ∧ Below w.heap.size w wr) (fun _ x _ => cs.length - (intOf x).toNat)
  case atStart => exact ⟨0, by omega, rfl, rfl, Below.refl _ _⟩
  case round =>
    obtain ⟨k, hk, rfl, he, hb⟩ := hrel
    have HE : Hid (cs.all okCo = (cs.drop k).all okCo) := he
    have HB : Hid (Below w.heap.size w wr) := hb
    have hsz := hb.size
    have HH2 : Hid (wr.cell? ⟨g, 0, none⟩ = some (.func (.func 38) #[] #[])) := by rw [hb.cell hgl]; exact HH.out
    clear he hb
    by_cases hkl : k < cs.length
    · have hki : (k : Int) < (cs.length : Int) := by omega
      obtain ⟨b, off, rfl, c0, c1, c2⟩ := (HV.out.later (HB.out.mono hB)).cell k hkl
      have HS : Hid _ := all_step okCo cs k hkl
      have HC : Hid (Calls Tryz.prog 71 #[.agg #[.string cs[k].1, .int .i64 cs[k].2.1, .bool cs[k].2.2], .pointer (some ⟨g, 0, none⟩)] wr fun e w' => e = .returned (.bool (!okCo cs[k])) ∧ Below wr.heap.size wr w') := notColT cs[k] g wr HH2.out
      generalize cs[k] = c at *
      obtain ⟨n, kd, nn⟩ := c
      dsimp only at *
      go_wp2_with fail
      refine Calls.mono HC.out ?_
      rintro e w1 ⟨rfl, hb1⟩
      have HB1 : Hid (Below w.heap.size w w1) := HB.out.trans (hb1.mono hsz)
      clear hb1 HC
      generalize okCo (n, kd, nn) = y at *
      rcases y with _ | _
      · have HF : Hid (cs.all okCo = false) := by
          show _ = _
          rw [HE.out, HS.out]; rfl
        go_wp2
        go_ret
        exact ⟨⟨_, rfl, by rw [HF.out]; simp⟩, HB1.out⟩
      · have HF : Hid (cs.all okCo = (cs.drop (k + 1)).all okCo) := by
          show _ = _
          rw [HE.out, HS.out]; rfl
        go_wp2
        go_roundw
        case rel => exact ⟨k + 1, by omega, by go_num, HF.out, HB1.out⟩
        case measure => simp [intOf]; omega
    · have hki : ¬ (k : Int) < (cs.length : Int) := by omega
      have HF : Hid (cs.all okCo = true) := by
        show _ = _
        rw [HE.out, List.drop_eq_nil_of_le (by omega)]; rfl
      go_wp2
      go_ret
      exact ⟨⟨_, rfl, by rw [HF.out]; rfl⟩, HB.out⟩
theorem hasColT (v : Value) (cs : List CD) (g B : Nat) (w : World) (hB : B ≤ w.heap.size) (hv : SeesC w B v cs) (hl : cs.length ≤ 140737488355328) (h : w.cell? ⟨g, 0, none⟩ = some (.func (.func 38) #[] #[])) :
    Calls Tryz.prog 70 #[v, .func (.func 71) #[] #[.pointer (some ⟨g, 0, none⟩)]] w fun e w' => e = .returned (.bool (!cs.all okCo)) ∧ Below w.heap.size w w' := by
  have HC : Hid (∀ _ : Unit, _) := fun _ => ixColT v cs g B w hB hv hl h
  obtain ⟨a, cap, rfl⟩ := hv.form
  clear hv h
  generalize cs.all okCo = x at *
  go_enter Tryz.func70, Tryz.ntmps70
  go_wp2_with fail
  refine (HC.out ()).mono ?_
  rintro e w1 ⟨⟨r, rfl, hr⟩, hb⟩
  have HR : Hid (decide (0 ≤ r) = !x) := hr
  clear hr
  go_wp2
  all_goals go_ret
  all_goals (have hr := HR.out; refine ⟨?_, hb⟩; simp_all)
set_option maxHeartbeats 2000000 in
theorem listColT (v : Value) (cs : List CD) (B : Nat) (w : World) (hB : B ≤ w.heap.size) (hv : SeesC w B v cs) (hl : cs.length ≤ 140737488355328) :
    Calls Tryz.prog 37 #[v, .int .i64 16, .func (.func 38) #[] #[]] w fun e w' => e = .returned (.bool (okCs cs)) ∧ Below w.heap.size w w' := by
  have HB : Hid (Below w.heap.size w (w.alloc (.cells #[.func (.func 38) #[] #[]] 81))) := (Below.refl _ _).alloc (Nat.le_refl _) _
  have HC : Hid (∀ _ : Unit, _) := fun _ => hasColT v cs w.heap.size B (w.alloc (.cells #[.func (.func 38) #[] #[]] 81)) (by have := HB.out.size; omega) (hv.later (HB.out.mono hB)) hl (by simp)
  obtain ⟨a, cap, rfl⟩ := hv.form
  clear hv
  by_cases h1 : 1 ≤ cs.length
  · have h1i : (1 : Int) ≤ (cs.length : Int) := by omega
    by_cases h2 : cs.length ≤ 16
    · have h2i : (cs.length : Int) ≤ 16 := by omega
      have HE : Hid (okCs cs = cs.all okCo) := by unfold okCs; rw [decide_eq_true h1, decide_eq_true h2]; rfl
      generalize cs.all okCo = x at *
      go_enter Tryz.func37, Tryz.ntmps37
      go_wp2_with fail
      refine (HC.out ()).mono ?_
      rintro e w1 ⟨rfl, hb⟩
      go_wp2
      go_ret
      exact ⟨by rw [HE.out]; cases x <;> rfl, HB.out.trans (hb.mono HB.out.size)⟩
    · have h2i : ¬ (cs.length : Int) ≤ 16 := by omega
      have HE : Hid (okCs cs = false) := by unfold okCs; rw [decide_eq_true h1, decide_eq_false h2]; rfl
      go_enter Tryz.func37, Tryz.ntmps37
      go_wp2
      go_ret
      exact ⟨by rw [HE.out]; rfl, HB.out⟩
  · have h1i : ¬ (1 : Int) ≤ (cs.length : Int) := by omega
    have HE : Hid (okCs cs = false) := by unfold okCs; rw [decide_eq_false h1]; rfl
    go_enter Tryz.func37, Tryz.ntmps37
    go_wp2
    go_ret
    exact ⟨by rw [HE.out]; rfl, HB.out⟩
end Go.Proofs.YtjcffcpmegpjeaaGreatDoor

namespace Go.Proofs.YtjcffcpmegpjeaaGreatDoor
open Go.ChangeShapes Go.WideShapes Go.ChangeAt Go.RowKit
set_option linter.unusedVariables false
set_option maxRecDepth 100000
theorem nnAt_get {cs : List CD} {k : Nat} (h : k < cs.length) : nnAt cs k = cs[k].2.2 := by unfold nnAt; rw [List.getElem?_eq_getElem h]
set_option maxHeartbeats 2000000 in
theorem placeT (k : Int) (v : Value) (cs : List CD) (tb B : Nat) (w : World) (hc : w.cell? ⟨tb, 2, none⟩ = some v) (hv : SeesC w B v cs) (hl : cs.length ≤ 140737488355328) :
    Calls Tryz.prog 39 #[.int .i64 k, .pointer (some ⟨tb, 0, none⟩)] w fun e w' => e = .returned (.bool (okPl cs k)) ∧ w' = w := by
  obtain ⟨a, cap, rfl⟩ := hv.form
  have HV : Hid (SeesC w B (.slice a cs.length cap) cs) := hv
  clear hv
  by_cases h0 : 0 ≤ k
  · by_cases h1 : k < (cs.length : Int)
    · obtain ⟨n, rfl⟩ : ∃ n : Nat, k = (n : Int) := ⟨k.toNat, by omega⟩
      have hn : n < cs.length := by omega
      obtain ⟨b, off, rfl, c0, c1, c2⟩ := HV.out.cell n hn
      have HE : Hid (okPl cs (n : Int) = cs[n].2.2) := by
        unfold okPl
        rw [decide_eq_true h0, decide_eq_true h1, Int.toNat_natCast, nnAt_get hn]; rfl
      generalize cs[n] = c at *
      obtain ⟨nm, kd, nn⟩ := c
      dsimp only at *
      go_enter Tryz.func39, Tryz.ntmps39
      go_wp2
      go_ret
      exact ⟨by rw [HE.out]; rfl, rfl⟩
    · have HE : Hid (okPl cs k = false) := by unfold okPl; rw [decide_eq_true h0, decide_eq_false h1]; rfl
      go_enter Tryz.func39, Tryz.ntmps39
      go_wp2
      go_ret
      exact ⟨by rw [HE.out]; rfl, rfl⟩
  · have HE : Hid (okPl cs k = false) := by unfold okPl; rw [decide_eq_false h0]; rfl
    go_enter Tryz.func39, Tryz.ntmps39
    go_wp2
    go_ret
    exact ⟨by rw [HE.out]; rfl, rfl⟩
theorem notPlT (k : Int) (v : Value) (cs : List CD) (g tb B : Nat) (w : World) (h : w.cell? ⟨g, 0, none⟩ = some (.func (.func 39) #[] #[.pointer (some ⟨tb, 0, none⟩)])) (hc : w.cell? ⟨tb, 2, none⟩ = some v) (hv : SeesC w B v cs) (hl : cs.length ≤ 140737488355328) :
    Calls Tryz.prog 74 #[.int .i64 k, .pointer (some ⟨g, 0, none⟩)] w fun e w' => e = .returned (.bool (!okPl cs k)) ∧ w' = w := by
  have HC : Hid (∀ _ : Unit, _) := fun _ => placeT k v cs tb B w hc hv hl
  generalize okPl cs k = x at *
  clear hc hv
  go_enter Tryz.func74, Tryz.ntmps74
  go_wp2_with fail
  refine (HC.out ()).mono ?_
  rintro e w1 ⟨rfl, rfl⟩
  go_wp2
  go_ret
  exact ⟨rfl, rfl⟩
set_option maxHeartbeats 2000000 in
theorem ixIntT (u v : Value) (ks : List Int) (cs : List CD) (g tb B : Nat) (w : World) (hu : SeesG (Value.int .i64) w B u ks) (hkl : ks.length ≤ 140737488355328) (h : w.cell? ⟨g, 0, none⟩ = some (.func (.func 39) #[] #[.pointer (some ⟨tb, 0, none⟩)])) (hc : w.cell? ⟨tb, 2, none⟩ = some v) (hv : SeesC w B v cs) (hl : cs.length ≤ 140737488355328) :
    Calls Tryz.prog 99 #[u, .func (.func 74) #[] #[.pointer (some ⟨g, 0, none⟩)]] w fun e w' => (∃ r : Int, e = .returned (.int .i64 r) ∧ decide (0 ≤ r) = !ks.all (okPl cs)) ∧ w' = w := by
  obtain ⟨a, cap, rfl⟩ := hu.form
  have HU : Hid (SeesG (Value.int .i64) w B (.slice a ks.length cap) ks) := hu
  have HC : Hid (∀ k, _) := fun k => notPlT k v cs g tb B w h hc hv hl
  clear hu h hc hv
  go_enter Tryz.func99, Tryz.ntmps99
  go_wp2
  go_loopw [5, 8] (fun _ x wr => ∃ k : Nat, k ≤ ks.length ∧ x = .int .i64 (k : Int) ∧ ks.all (okPl cs) = (ks.drop k).all (okPl cs) ∧ wr = w) (fun _ x _ => ks.length - (intOf x).toNat)
  case atStart => exact ⟨0, by omega, rfl, rfl, rfl⟩
  case round =>
    obtain ⟨k, hk, rfl, he, rfl⟩ := hrel
    have HE : Hid (ks.all (okPl cs) = (ks.drop k).all (okPl cs)) := he
    clear he
    by_cases hkl : k < ks.length
    · have hki : (k : Int) < (ks.length : Int) := by omega
      obtain ⟨b, off, rfl, c0⟩ := HU.out.cell k hkl
      have HS : Hid _ := all_step (okPl cs) ks k hkl
      generalize ks[k] = c at *
      go_wp2_with fail
      refine (HC.out c).mono ?_
      rintro e w1 ⟨rfl, rfl⟩
      generalize okPl cs c = y at *
      rcases y with _ | _
      · have HF : Hid (ks.all (okPl cs) = false) := by
          show _ = _
          rw [HE.out, HS.out]; rfl
        go_wp2
        go_ret
        exact ⟨⟨_, rfl, by rw [HF.out]; simp⟩, rfl⟩
      · have HF : Hid (ks.all (okPl cs) = (ks.drop (k + 1)).all (okPl cs)) := by
          show _ = _
          rw [HE.out, HS.out]; rfl
        go_wp2
        go_roundw
        case rel => exact ⟨k + 1, by omega, by go_num, HF.out, trivial⟩
        case measure => simp [intOf]; omega
    · have hki : ¬ (k : Int) < (ks.length : Int) := by omega
      have HF : Hid (ks.all (okPl cs) = true) := by
        show _ = _
        rw [HE.out, List.drop_eq_nil_of_le (by omega)]; rfl
      go_wp2
      go_ret
      exact ⟨⟨_, rfl, by rw [HF.out]; rfl⟩, rfl⟩
theorem hasIntT (u v : Value) (ks : List Int) (cs : List CD) (g tb B : Nat) (w : World) (hu : SeesG (Value.int .i64) w B u ks) (hkl : ks.length ≤ 140737488355328) (h : w.cell? ⟨g, 0, none⟩ = some (.func (.func 39) #[] #[.pointer (some ⟨tb, 0, none⟩)])) (hc : w.cell? ⟨tb, 2, none⟩ = some v) (hv : SeesC w B v cs) (hl : cs.length ≤ 140737488355328) :
    Calls Tryz.prog 73 #[u, .func (.func 74) #[] #[.pointer (some ⟨g, 0, none⟩)]] w fun e w' => e = .returned (.bool (!ks.all (okPl cs))) ∧ w' = w := by
  have HC : Hid (∀ _ : Unit, _) := fun _ => ixIntT u v ks cs g tb B w hu hkl h hc hv hl
  obtain ⟨a, cap, rfl⟩ := hu.form
  clear hu h hc hv
  generalize ks.all (okPl cs) = x at *
  go_enter Tryz.func73, Tryz.ntmps73
  go_wp2_with fail
  refine (HC.out ()).mono ?_
  rintro e w1 ⟨⟨r, rfl, hr⟩, rfl⟩
  have HR : Hid (decide (0 ≤ r) = !x) := hr
  clear hr
  go_wp2
  all_goals go_ret
  all_goals (have hr := HR.out; refine ⟨?_, rfl⟩; simp_all)
set_option maxHeartbeats 2000000 in
theorem listIntT (u v : Value) (ks : List Int) (cs : List CD) (tb B : Nat) (w : World) (hB : B ≤ w.heap.size) (hu : SeesG (Value.int .i64) w B u ks) (hkl : ks.length ≤ 140737488355328) (hc : w.cell? ⟨tb, 2, none⟩ = some v) (hv : SeesC w B v cs) (hl : cs.length ≤ 140737488355328) :
    Calls Tryz.prog 40 #[u, .int .i64 8, .func (.func 39) #[] #[.pointer (some ⟨tb, 0, none⟩)]] w fun e w' => e = .returned (.bool (okKs cs ks)) ∧ Below w.heap.size w w' := by
  have HB : Hid (Below w.heap.size w (w.alloc (.cells #[.func (.func 39) #[] #[.pointer (some ⟨tb, 0, none⟩)]] 82))) := (Below.refl _ _).alloc (Nat.le_refl _) _
  have htl : tb < w.heap.size := World.block_lt_of_cell? _ _ hc
  have HC : Hid (∀ _ : Unit, _) := fun _ => hasIntT u v ks cs w.heap.size tb B (w.alloc (.cells #[.func (.func 39) #[] #[.pointer (some ⟨tb, 0, none⟩)]] 82)) (hu.later (HB.out.mono hB)) hkl (by simp) (by rw [HB.out.cell htl]; exact hc) (hv.later (HB.out.mono hB)) hl
  obtain ⟨a, cap, rfl⟩ := hu.form
  clear hu hc hv
  by_cases h1 : 1 ≤ ks.length
  · have h1i : (1 : Int) ≤ (ks.length : Int) := by omega
    by_cases h2 : ks.length ≤ 8
    · have h2i : (ks.length : Int) ≤ 8 := by omega
      have HE : Hid (okKs cs ks = ks.all (okPl cs)) := by unfold okKs; rw [decide_eq_true h1, decide_eq_true h2]; rfl
      generalize ks.all (okPl cs) = x at *
      go_enter Tryz.func40, Tryz.ntmps40
      go_wp2_with fail
      refine (HC.out ()).mono ?_
      rintro e w1 ⟨rfl, hb⟩
      subst hb
      go_wp2
      go_ret
      exact ⟨by rw [HE.out]; cases x <;> rfl, HB.out⟩
    · have h2i : ¬ (ks.length : Int) ≤ 8 := by omega
      have HE : Hid (okKs cs ks = false) := by unfold okKs; rw [decide_eq_true h1, decide_eq_false h2]; rfl
      go_enter Tryz.func40, Tryz.ntmps40
      go_wp2
      go_ret
      exact ⟨by rw [HE.out]; rfl, HB.out⟩
  · have h1i : ¬ (1 : Int) ≤ (ks.length : Int) := by omega
    have HE : Hid (okKs cs ks = false) := by unfold okKs; rw [decide_eq_false h1]; rfl
    go_enter Tryz.func40, Tryz.ntmps40
    go_wp2
    go_ret
    exact ⟨by rw [HE.out]; rfl, HB.out⟩
end Go.Proofs.YtjcffcpmegpjeaaGreatDoor

namespace Go.Proofs.YtjcffcpmegpjeaaGreatDoor
open Go.ChangeShapes Go.WideShapes Go.ChangeAt Go.RowKit
set_option linter.unusedVariables false
set_option maxRecDepth 100000
theorem infoTx : (Tryz.prog.info? 9).map (fun i => (i.zero, i.size, i.bytes)) = some (some (.string ⟨#[]⟩), 1, 16) := by kernel_rfl
/-- The block g holds just these texts. -/
def RowTx (w : World) (g : Nat) (ts : List ByteArray) : Prop := w.heap[g]? = some (.cells (ts.map Value.string).toArray 9)
theorem RowTx.cell {w : World} {g : Nat} {ts : List ByteArray} (h : RowTx w g ts) (i : Nat) (hi : i < ts.length) : w.cell? ⟨g, i, none⟩ = some (.string ts[i]) := by
  unfold World.cell?
  rw [h]
  simp [List.getElem?_eq_getElem hi]
theorem RowTx.free {w : World} {g : Nat} {ts : List ByteArray} (h : RowTx w g ts) (i : Nat) : w.frozen? ⟨g, i, none⟩ = false := by
  have h' : w.heap[g]? = some (.cells (ts.map Value.string).toArray 9) := h
  simp [World.frozen?, h']
theorem RowTx.set {w : World} {g : Nat} {ts : List ByteArray} (h : RowTx w g ts) (i : Nat) (t : ByteArray) : RowTx (w.setCell ⟨g, i, none⟩ (.string t)) g (ts.set i t) := by
  have hb : g < w.heap.size := (Array.getElem?_eq_some_iff.1 h).1
  have he := (Array.getElem?_eq_some_iff.1 h).2
  unfold RowTx
  show (w.heap.modify g _)[g]? = _
  rw [Array.getElem?_modify]
  simp [he, hb, List.map_set]
theorem RowTx.lt {w : World} {g : Nat} {ts : List ByteArray} (h : RowTx w g ts) : g < w.heap.size := (Array.getElem?_eq_some_iff.1 h).1
theorem RowTx.kept {w w' : World} {g : Nat} {ts : List ByteArray} (h : RowTx w g ts) (hb : Below w.heap.size w w') : RowTx w' g ts := (hb.block g h.lt).trans h
theorem RowTx.sees {w : World} {g : Nat} {ts : List ByteArray} (h : RowTx w g ts) : SeesG Value.string w w.heap.size (.slice (some ⟨g, 0, none⟩) ts.length ts.length) ts :=
  ⟨_, _, rfl, Nat.le_refl _, fun i hi => ⟨g, 0, rfl, h.lt, by rw [Nat.zero_add]; exact h.cell i hi⟩⟩
theorem mkTx (n : Nat) (hb : n ≤ 1099511627776) (w : World) : ∃ w', (Instr.makeSlice 85 (.int .i64 (n : Int)) (.int .i64 (n : Int))).run Tryz.prog w = .ok (.slice (some ⟨w.heap.size, 0, none⟩) n n) w' ∧
    RowTx w' w.heap.size (List.replicate n ⟨#[]⟩) ∧ Below w.heap.size w w' ∧ w'.heap.size = w.heap.size + 1 := by
  obtain ⟨i, hi, hz0, hz1, hz2⟩ := info_parts infoTx
  have h := run_make (P := Tryz.prog) w 85 9 i (.string ⟨#[]⟩) (by kernel_rfl) hi hz0 .i64 .i64 n n (by omega) (Int.le_refl _) (by rw [hz2]; omega) (by omega)
  simp only [Int.toNat_natCast, hz1] at h
  refine ⟨_, h, ?_, (Below.refl _ w).alloc (Nat.le_refl _) _, by show (w.heap.push _).size = _; simp⟩
  unfold RowTx
  have e : madeCells (Value.string ⟨#[]⟩).cells (n * 1) = ((List.replicate n (⟨#[]⟩ : ByteArray)).map Value.string).toArray := by
    apply Array.ext'
    simp only [madeCells, Value.cells]
    apply List.ext_getElem
    · simp
    · intro i h1 h2
      simp [Nat.mod_one]
  rw [e]
  show (w.heap.push _)[w.heap.size]? = _
  simp
/-- The first i of the texts, the others empty. -/
def parTx (ts : List ByteArray) (i : Nat) : List ByteArray := ts.take i ++ List.replicate (ts.length - i) ⟨#[]⟩
theorem parTx_len (ts : List ByteArray) {i : Nat} (h : i ≤ ts.length) : (parTx ts i).length = ts.length := by
  unfold parTx
  rw [List.length_append, List.length_take, List.length_replicate]
  omega
theorem parTx_set (ts : List ByteArray) {i : Nat} (h : i < ts.length) : (parTx ts i).set i ts[i] = parTx ts (i + 1) := by
  unfold parTx
  have e1 : ts.length - i = (ts.length - (i + 1)) + 1 := by omega
  rw [e1, List.replicate_succ, List.set_append_right _ _ (by rw [List.length_take]; omega), List.length_take, Nat.min_eq_left (by omega), Nat.sub_self, List.set_cons_zero, List.take_succ_eq_append_getElem h, List.append_assoc]
  rfl
theorem parTx_zero (ts : List ByteArray) : parTx ts 0 = List.replicate ts.length ⟨#[]⟩ := by unfold parTx; simp
theorem parTx_full (ts : List ByteArray) : parTx ts ts.length = ts := by unfold parTx; simp
set_option maxHeartbeats 4000000 in
theorem namesT (v : Value) (cs : List CD) (B : Nat) (w : World) (hB : B ≤ w.heap.size) (hv : SeesC w B v cs) (hl : cs.length ≤ 1099511627776) :
    Calls Tryz.prog 42 #[v] w fun e w' => (∃ u, e = .returned u ∧ SeesG Value.string w' w'.heap.size u (nmsC cs)) ∧ Below w.heap.size w w' := by
  obtain ⟨a, cap, rfl⟩ := hv.form
  have HV : Hid (SeesC w B (.slice a cs.length cap) cs) := hv
  have hnl : (nmsC cs).length = cs.length := by unfold nmsC; rw [List.length_map]
  have HNG : Hid (∀ i (h : i < cs.length), (nmsC cs)[i]? = some cs[i].1) := fun i h => by simp [nmsC, h]
  clear hv
  obtain ⟨w1, hmk, hrow, hbel, hsz⟩ := mkTx cs.length hl w
  have HR : Hid (RowTx w1 w.heap.size (parTx (nmsC cs) 0)) := by rw [parTx_zero, hnl]; exact hrow
  have HB : Hid (Below w.heap.size w w1) := hbel
  have HZ : Hid (w1.heap.size = w.heap.size + 1) := hsz
  clear hrow hbel hsz
  generalize nmsC cs = ns at *
  go_enter Tryz.func42, Tryz.ntmps42
  go_wp2
  clear hmk
  go_loopw [4, 5, 11] (fun _ _ x wr => ∃ k : Nat, k ≤ cs.length ∧ x = .int .i64 (k : Int) ∧ RowTx wr w.heap.size (parTx ns k) ∧ Below w.heap.size w wr) (fun _ _ x _ => cs.length - (intOf x).toNat)
  case atStart => exact ⟨0, by omega, rfl, HR.out, HB.out⟩
  case round =>
    obtain ⟨k, hk, rfl, hr, hb⟩ := hrel
    have HR2 : Hid (RowTx wr w.heap.size (parTx ns k)) := hr
    have HB2 : Hid (Below w.heap.size w wr) := hb
    clear hr hb
    by_cases hkl : k < cs.length
    · have hki : (k : Int) < (cs.length : Int) := by omega
      obtain ⟨b, off, rfl, c0, c1, c2⟩ := (HV.out.later (HB2.out.mono hB)).cell k hkl
      have hkn : k < ns.length := by omega
      have HRA : Hid (RowTx (wr.alloc (.cells #[.string cs[k].1, .int .i64 cs[k].2.1, .bool cs[k].2.2] 61)) w.heap.size (parTx ns k)) := HR2.out.kept (boxC wr cs[k])
      have HBA : Hid (Below w.heap.size w (wr.alloc (.cells #[.string cs[k].1, .int .i64 cs[k].2.1, .bool cs[k].2.2] 61))) := HB2.out.trans ((boxC wr cs[k]).mono HB2.out.size)
      have hcr := HRA.out.cell k (by rw [parTx_len ns (by omega)]; omega)
      have hfr := HRA.out.free k
      have HNE : Hid (ns[k] = cs[k].1) := by
        have := HNG.out k hkl
        rw [List.getElem?_eq_getElem hkn] at this
        exact Option.some.inj this
      generalize (parTx ns k)[k]'(by rw [parTx_len ns (by omega)]; omega) = x0 at *
      generalize cs[k] = c at *
      obtain ⟨nm, kd, nn⟩ := c
      dsimp only at *
      go_wp2
      go_roundw
      case rel =>
        refine ⟨k + 1, by omega, by go_num, ?_, HBA.out.setCell (Nat.le_refl _) _⟩
        have := HRA.out.set k nm
        rw [← HNE.out, parTx_set ns hkn] at this
        rw [HNE.out] at this
        exact this
      case measure => simp [intOf]; omega
    · have hki : ¬ (k : Int) < (cs.length : Int) := by omega
      have HF : Hid (RowTx wr w.heap.size ns) := by
        have := HR2.out
        rw [show k = ns.length by omega, parTx_full] at this
        exact this
      go_wp2
      go_ret
      refine ⟨⟨_, rfl, ?_⟩, HB2.out⟩
      have := HF.out.sees
      rw [hnl] at this
      exact this
end Go.Proofs.YtjcffcpmegpjeaaGreatDoor
