import Derived.Test.YtmolfemcciljjaaRedW3
namespace Go.Proofs.Ytmolfemcciljjaa
open Go.ChangeShapes Go.WideShapes Go.ChangeAt Go.RowKit
set_option linter.unusedVariables false
set_option maxRecDepth 100000
theorem sizeAl (w : World) (o : Obj) : (w.alloc o).heap.size = w.heap.size + 1 := by show (w.heap.push o).size = _; simp
/-- A region ends as it should, with this act, in a world of which S holds. -/
def PostR (A : Act) (S : World → Prop) : Exit → Act → World → Prop
  | .normal, b, w' => b = A ∧ S w'
  | _, _, _ => False
theorem PostR.here (A : Act) {S : World → Prop} {w' : World} (h : S w') : PostR A S .normal A w' := ⟨rfl, h⟩
theorem wp_onceR {P : Program} {c : Code} {Q : Exit → Act → World → Prop} {a : Act} {w : World} (S : World → Prop) (h : ∃ A, c.wp P (PostR A S) a w ∧ ∀ w', S w' → Q .normal A w') : c.wp P Q a w := by
  obtain ⟨A, h1, h2⟩ := h
  refine Code.wp_mono ?_ h1
  intro e b w' h
  cases e <;> first | exact h.elim | (obtain ⟨rfl, h3⟩ := h; exact h2 _ h3)
theorem binOp_string_leqS (t : TypeId) (a b : ByteArray) : binOp .leq t (.string a) (.string b) = pure (.bool (!lessS b a)) := by
  unfold lessS; rw [← less_total]; simp [binOp, Op.stringOp]
theorem binOp_string_geqS (t : TypeId) (a b : ByteArray) : binOp .geq t (.string a) (.string b) = pure (.bool (!lessS a b)) := by
  unfold lessS; simp [binOp, Op.stringOp]
/-- Two commits in their boxes. -/
def box2 (w : World) (s t : Int) (a b : Value) : World := (w.alloc (.cells #[.int .u64 s, a] 25)).alloc (.cells #[.int .u64 t, b] 25)
theorem box2_size (w : World) (s t : Int) (a b : Value) : (box2 w s t a b).heap.size = w.heap.size + 2 := by unfold box2; simp only [sizeAl]
theorem box2_below (w : World) (s t : Int) (a b : Value) : Below w.heap.size w (box2 w s t a b) := ((Below.refl _ _).alloc (Nat.le_refl _) _).alloc (by rw [sizeAl]; omega) _
theorem box2_a (w : World) (s t : Int) (a b : Value) : (box2 w s t a b).cell? ⟨w.heap.size, 1, none⟩ = some a := by unfold box2; simp [go_sem]
theorem box2_b (w : World) (s t : Int) (a b : Value) : (box2 w s t a b).cell? ⟨w.heap.size + 1, 1, none⟩ = some b := by unfold box2; simp [go_sem]
set_option maxHeartbeats 1600000 in
theorem sameC_any (s t : Int) (a b : Value) (vs us : List W3) (B : Nat) (w : World) (hB : B ≤ w.heap.size) (ha : SeesW w B a vs) (hb : SeesW w B b us) :
    Calls Try.prog 7 #[.agg #[.int .u64 s, a], .agg #[.int .u64 t, b]] w fun e w' => e = .returned (.bool (decide (s = t ∧ vs = us))) ∧ Below w.heap.size w w' := by
  obtain ⟨ao, cap, rfl, hl1, hc1, hs1⟩ := ha
  obtain ⟨bo, cap2, rfl, hl2, hc2, hs2⟩ := hb
  have HA : Hid _ := hs1
  have HBs : Hid _ := hs2
  have hgd := guardW
  clear hs1 hs2
  by_cases h0 : s = t
  · subst h0
    by_cases hn : vs.length = us.length
    · have HE : Hid (decide (s = s ∧ vs = us) = decide (vs = us)) := by show _ = _; simp
      have hne : ((vs.length : Int) != (us.length : Int)) = false := by simp; omega
      have HN : Hid (vs.length = us.length) := hn
      clear hn
      go_enter Try.func7, Try.ntmps7
      go_wp2_with fail
      have HX : Hid (∀ wr, Below (w.heap.size + 2) (box2 w s s (.slice ao vs.length cap) (.slice bo us.length cap2)) wr → Below w.heap.size w wr ∧ wr.cell? ⟨w.heap.size, 1, none⟩ = some (.slice ao vs.length cap) ∧ wr.cell? ⟨w.heap.size + 1, 1, none⟩ = some (.slice bo us.length cap2)) := fun wr h =>
        ⟨(box2_below _ _ _ _ _).trans (h.mono (by omega)), (h.cell (p := ⟨w.heap.size, 1, none⟩) (by simp only; omega)).trans (box2_a _ _ _ _ _), (h.cell (p := ⟨w.heap.size + 1, 1, none⟩) (by simp only; omega)).trans (box2_b _ _ _ _ _)⟩
      go_loopw [5] (fun i wr => ∃ k : Nat, k ≤ vs.length ∧ i = .int .i64 k ∧ decide (vs = us) = decide (vs.drop k = us.drop k) ∧ Below (w.heap.size + 2) (box2 w s s (.slice ao vs.length cap) (.slice bo us.length cap2)) wr) (fun i _ => vs.length - (intOf i).toNat)
      case atStart => exact ⟨0, by omega, rfl, rfl, Below.refl _ _⟩
      case round =>
        obtain ⟨k, hk1, rfl, hcmp, hbel⟩ := hrel
        have HC : Hid (decide (vs = us) = decide (vs.drop k = us.drop k)) := hcmp
        obtain ⟨hW, ca, cb⟩ := HX.out wr hbel
        have HBl : Hid (Below (w.heap.size + 2) _ wr) := hbel
        have HW : Hid (Below w.heap.size w wr) := hW
        clear hbel hcmp hW
        by_cases h1 : k < vs.length
        · have h2 : k < us.length := by have := HN.out; omega
          obtain ⟨b1, o1, e1, hb1, x0, x1, x2⟩ := HA.out k h1
          have y0 := (HW.out.cell (p := ⟨b1, o1 + k * 3, none⟩) (by simp only; omega)).trans x0
          have y1 := (HW.out.cell (p := ⟨b1, o1 + k * 3 + 1, none⟩) (by simp only; omega)).trans x1
          have y2 := (HW.out.cell (p := ⟨b1, o1 + k * 3 + 2, none⟩) (by simp only; omega)).trans x2
          clear x0 x1 x2
          subst e1
          obtain ⟨b2, o2, e2, hb2, x0, x1, x2⟩ := HBs.out k h2
          have z0 := (HW.out.cell (p := ⟨b2, o2 + k * 3, none⟩) (by simp only; omega)).trans x0
          have z1 := (HW.out.cell (p := ⟨b2, o2 + k * 3 + 1, none⟩) (by simp only; omega)).trans x1
          have z2 := (HW.out.cell (p := ⟨b2, o2 + k * 3 + 2, none⟩) (by simp only; omega)).trans x2
          clear x0 x1 x2
          subst e2
          have hev := fun w => eqW vs[k] us[k] w
          have HS : Hid _ := sameW_step vs us k h1 h2
          cases hd : decide (vs[k] = us[k])
          · rw [hd] at hev HS
            go_wp2_with fail
            go_quiet (fail)
            go_wp2
            go_ret
            exact ⟨by rw [HE.out, HC.out, HS.out]; rfl, HW.out.trans (below_drewNW _)⟩
          · rw [hd] at hev HS
            go_wp2_with fail
            go_quiet (fail)
            go_wp2
            go_roundw
            case rel => exact ⟨k + 1, by omega, by go_num, by rw [HC.out, HS.out]; rfl, HBl.out.trans (below_drewNW _)⟩
            case measure => simp [intOf]; omega
        · go_wp2
          go_ret
          exact ⟨by rw [HE.out, HC.out, List.drop_eq_nil_of_le (by omega), List.drop_eq_nil_of_le (by have := HN.out; omega)]; rfl, HW.out⟩
    · have HE : Hid (∀ p : Prop, [Decidable (p ∧ vs = us)] → decide (p ∧ vs = us) = false) := fun p _ => by simp; intro _ e; exact hn (by rw [e])
      have hne : ((vs.length : Int) != (us.length : Int)) = true := by simp; omega
      go_enter Try.func7, Try.ntmps7
      go_wp2
      go_ret
      exact ⟨by rw [HE.out]; rfl, box2_below w s s (.slice ao vs.length cap) (.slice bo us.length cap2)⟩
  · have HE : Hid (decide (s = t ∧ vs = us) = false) := by show _ = _; simp [h0]
    have hne : (s != t) = true := by simpa using h0
    go_enter Try.func7, Try.ntmps7
    go_wp2
    go_ret
    exact ⟨by rw [HE.out]; rfl, box2_below w s t (.slice ao vs.length cap) (.slice bo us.length cap2)⟩
theorem setCellW {w : World} {b j : Nat} {c : Array Value} {t : TypeId} {fz : Nat × Nat} (v : Value) (h : w.heap[b]? = some (.cells c t fz)) : (w.setCell ⟨b, j, none⟩ v).heap[b]? = some (.cells (c.setIfInBounds j v) t fz) := by
  have hb : b < w.heap.size := (Array.getElem?_eq_some_iff.1 h).1
  have he := (Array.getElem?_eq_some_iff.1 h).2
  show (w.heap.modify b _)[b]? = _
  rw [Array.getElem?_modify]
  simp [he, hb]
theorem frozW {w : World} {k : Nat} {c : Array Value} {t : TypeId} (h : w.heap[k]? = some (.cells c t (0, 0))) (j : Nat) : w.frozen? ⟨k, j, none⟩ = false := by simp [World.frozen?, h]
theorem cellWH {w : World} {k : Nat} {c : Array Value} {t : TypeId} (h : w.heap[k]? = some (.cells c t)) (j : Nat) : w.cell? ⟨k, j, none⟩ = c[j]? := by simp [World.cell?, h]
theorem box2_a0 (w : World) (s t : Int) (a b : Value) : (box2 w s t a b).cell? ⟨w.heap.size, 0, none⟩ = some (.int .u64 s) := by unfold box2; simp [go_sem]
theorem box2_hb (w : World) (s t : Int) (a b : Value) : (box2 w s t a b).heap[w.heap.size + 1]? = some (.cells #[.int .u64 t, b] 25) := by
  have := heap_alloc_new (w.alloc (.cells #[.int .u64 s, a] 25)) (.cells #[.int .u64 t, b] 25)
  rw [sizeAl] at this
  exact this
theorem infoCs : (Try.prog.info? 25).map (·.size) = some 2 := by kernel_rfl
theorem ret_co {fn : Func} {p : Tmp} (h : fn.results = #[.cell p 25]) (tmps : Array Value) (w : World) (x y a b : Value) (g : Nat) (hp : tmps.getD p undef = .pointer (some ⟨g, 0, none⟩)) (hg : w.heap[g]? = some (.cells #[x, y] 25 (0, 0))) :
    (results fn tmps).run Try.prog ((w.setCell ⟨g, 0, none⟩ a).setCell ⟨g, 1, none⟩ b) = .ok (.agg #[a, b]) ((w.setCell ⟨g, 0, none⟩ a).setCell ⟨g, 1, none⟩ b) :=
  results_cell_row h tmps _ g 25 _ (0, 0) _ hp (setCellW _ (setCellW _ hg)) Try.underlying25 rfl infoCs
theorem ownW.isSlice {w : World} {B : Nat} {v : Value} {xs : List W3} (h : ownW w B v xs) : ∃ sp n cp, v = .slice sp n cp := by
  rcases h.2 with ⟨e, _⟩ | ⟨g, cap, cur, e, _⟩
  · exact ⟨_, _, _, e⟩
  · exact ⟨_, _, _, e⟩
theorem infoCo : (Try.prog.info? 25).map (fun i => (i.zero, i.size, i.bytes)) = some (some (.agg #[.int .u64 0, .slice none 0 0]), 2, 32) := by kernel_rfl
end Go.Proofs.Ytmolfemcciljjaa
