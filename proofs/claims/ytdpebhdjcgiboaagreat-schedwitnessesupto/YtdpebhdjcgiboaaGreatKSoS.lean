import Derived.Test.YtdpebhdjcgiboaaGreatKSdQ
import Derived.Deep.AppendLies
import Derived.Deep.DrawnRows
import Derived.WalkKit
import Derived.ProofKit
import Derived.OpenShut
import Derived.ShutString
import Derived.WalkLawsBesides
import Derived.Outline
import Derived.WalkSpells
import Derived.BigRegion
import Derived.Laws.BytesArg
import Derived.Laws.BitsAllLaws
import Derived.Laws.OwnMore
import Derived.Shelf.SlSortCmp.WholeK
import Derived.Shelf.SlicesQ.Reverse
import Derived.Test.YtdpebhdjcgiboaaGreatChecked
namespace Go.Proofs.YtdpebhdjcgiboaaGreat
open Go.ChangeShapes Go.WideShapes Go.ChangeAt Go.RowKit
set_option linter.unusedVariables false
theorem infoBy : (Tryz.prog.info? 5).map (fun i => (i.zero, i.size, i.bytes)) = some (some (.int .u8 0), 1, 1) := by kernel_rfl

/-- The slice value v holds just the bytes xs, in a row of the call's own (blocks from B on). -/
def ownB (w : World) (B : Nat) (v : Value) (xs : List Int) : Prop := w.ownsRow B 5 1 v xs.length (xs.map (Value.int .u8))

theorem ownB_nil (w : World) (B : Nat) : ownB w B (.slice none 0 0) [] := World.ownsRow_nil _ _ _ _

theorem ownB.drew {w : World} {B : Nat} {v : Value} {xs : List Int} (h : ownB w B v xs) : ownB w.drew B v xs := World.ownsRow.drew h

theorem app_oneB {wr : World} {ops : Array Oper} {rest : List Oper} {o : Oper} {a : Act} {Q : Exit → Act → World → Prop} (hgd : o.guard = none) (s x : Operand)
    (ho : o.op = .call { callee := .builtin .append, args := #[s, x], argTypes := #[187, 187] })
    (B : Nat) (v : Value) (xs : List Int) (c : Int) (hown : ownB wr B v xs) (hs : a.eval s = v) (hx : a.eval x = .slice (some ⟨wr.heap.size, 0, none⟩) 1 1)
    (hlen : xs.length + 1 ≤ 140737488355328) (hB : B ≤ wr.heap.size)
    (h : ∀ v' w', ownB w' B v' (xs ++ [c]) → Below B wr w' → wpList Tryz.prog ops Q rest (a.put o.dst v') w') :
    wpList Tryz.prog ops Q (o :: rest) a (wr.alloc (.cells #[.int .u8 c] 5)) := by
  obtain ⟨i0, hi, hz0, hz1, hz2⟩ := info_parts infoBy
  refine wpList_append_own _ hgd s x 187 ho B 5 i0 (.int .u8 0) 1 1 Tryz.underlying187 hi hz0 hz1 hz2 rfl (by decide) v xs.length _ hs (World.ownsRow.alloc hown _)
    ⟨wr.heap.size, 0, none⟩ 1 1 [.int .u8 c] hx rfl ?_ ?_ (by unfold maxLen; omega) (by omega) (by simp; omega) ?_
  · intro j u hj
    match j, hj with
    | 0, hj => simp at hj; subst hj; simp [Addr.add]
  · intro u hu; simp at hu; subst hu; rfl
  · intro v' w' hown' hgrow _
    refine h v' w' ?_ ?_
    · have : (xs ++ [c]).length = xs.length + 1 := by simp
      unfold ownB; rw [this, List.map_append]; exact hown'
    · exact ((Below.refl _ _).alloc hB _).grown hgrow (by simp; omega) (fun k hk => (World.ownsRow.lt hown k hk).1)

/-- string(b) -/
theorem ownB.conv {w : World} {B : Nat} {v : Value} {xs : List Int} (h : ownB w B v xs) :
    (convert 187 9 v).run Tryz.prog w = .ok (.string (strOfNums xs)) w := by
  rcases h.2 with ⟨rfl, hn⟩ | ⟨g, cap, cur, rfl, hb, hg, hnc, hm, hs, ht⟩
  · have : xs = [] := List.eq_nil_of_length_eq_zero hn
    subst this
    rw [run_convert_bytes_nil w 187 5 Tryz.underlying187 Tryz.underlying5 0 0 9 Tryz.underlying9]
    rfl
  · refine run_convert_bytes_arg w 187 5 Tryz.underlying187 Tryz.underlying5 g 0 xs.length cap xs rfl (fun i hi => ?_) 9 Tryz.underlying9
    have := World.ownsRow.cellAt (g := g) (cap := cap) h i (by omega)
    rw [Nat.zero_add, this]
    simp [List.getElem?_eq_getElem hi]

theorem lt_alloc (w : World) (o : Obj) : w.heap.size < (w.alloc o).heap.size := by show _ < (Array.push _ _).size; simp

/-- The bytes that may stand for a pick. -/
def drP (p : Int × Int × Int) : List Int :=
  if p.1 = 0 then [p.2.2 % 256] else if p.1 = 1 then [p.2.1 % 256] else if p.1 = 2 then [(32 + p.2.1) % 256, (p.2.2 - 1) % 256] else if p.1 = 3 then [(64 + p.2.1) % 256]
  else if p.1 = 4 then [(96 + (p.2.2 - 1)) % 256] else if p.1 = 5 then [(128 + p.2.1) % 256] else if p.1 = 6 then [160] else []
def wfP (p : Int × Int × Int) : Prop := (-9223372036854775808 ≤ p.2.1 ∧ p.2.1 ≤ 9223372036854775807) ∧ (-9223372036854775808 ≤ p.2.2 ∧ p.2.2 ≤ 9223372036854775807)
theorem app_oneG {wr : World} {ops : Array Oper} {rest : List Oper} {o : Oper} {a : Act} {Q : Exit → Act → World → Prop} (hgd : o.guard = none) (s x : Operand)
    (ho : o.op = .call { callee := .builtin .append, args := #[s, x], argTypes := #[187, 187] })
    (B : Nat) (v : Value) (xs : List Int) (c : Int) (hown : ownB wr B v xs) (hs : a.eval s = v) (g : Nat) (hg : g = wr.heap.size) (hx : a.eval x = .slice (some ⟨g, 0, none⟩) 1 1)
    (hlen : xs.length + 1 ≤ 140737488355328) (hB : B ≤ wr.heap.size)
    (h : ∀ v' w', ownB w' B v' (xs ++ [c]) → Below B wr w' → wpList Tryz.prog ops Q rest (a.put o.dst v') w') :
    wpList Tryz.prog ops Q (o :: rest) a (wr.alloc (.cells #[.int .u8 c] 5)) := by
  subst hg
  exact app_oneB hgd s x ho B v xs c hown hs hx hlen hB h
theorem app_twoG {wr : World} {ops : Array Oper} {rest : List Oper} {o : Oper} {a : Act} {Q : Exit → Act → World → Prop} (hgd : o.guard = none) (s x : Operand)
    (ho : o.op = .call { callee := .builtin .append, args := #[s, x], argTypes := #[187, 187] })
    (B : Nat) (v : Value) (xs : List Int) (c d : Int) (hown : ownB wr B v xs) (hs : a.eval s = v) (g : Nat) (hg : g = wr.heap.size) (hx : a.eval x = .slice (some ⟨g, 0, none⟩) 2 2)
    (hlen : xs.length + 2 ≤ 140737488355328) (hB : B ≤ wr.heap.size)
    (h : ∀ v' w', ownB w' B v' (xs ++ [c, d]) → Below B wr w' → wpList Tryz.prog ops Q rest (a.put o.dst v') w') :
    wpList Tryz.prog ops Q (o :: rest) a (wr.alloc (.cells #[.int .u8 c, .int .u8 d] 5)) := by
  subst hg
  obtain ⟨i0, hi, hz0, hz1, hz2⟩ := info_parts infoBy
  refine wpList_append_own _ hgd s x 187 ho B 5 i0 (.int .u8 0) 1 1 Tryz.underlying187 hi hz0 hz1 hz2 rfl (by decide) v xs.length _ hs (World.ownsRow.alloc hown _)
    ⟨wr.heap.size, 0, none⟩ 2 2 [.int .u8 c, .int .u8 d] hx rfl ?_ ?_ (by unfold maxLen; omega) (by omega) (by simp; omega) ?_
  · intro j u hj
    match j, hj with
    | 0, hj => simp at hj; subst hj; simp [Addr.add]
    | 1, hj => simp at hj; subst hj; simp [Addr.add]
  · intro u hu; simp at hu; rcases hu with rfl | rfl <;> rfl
  · intro v' w' hown' hgrow _
    refine h v' w' ?_ ?_
    · have : (xs ++ [c, d]).length = xs.length + 2 := by simp
      unfold ownB; rw [this, List.map_append]; exact hown'
    · exact ((Below.refl _ _).alloc hB _).grown hgrow (by simp; omega) (fun k hk => (World.ownsRow.lt hown k hk).1)
theorem ownB.same {w w' : World} {B : Nat} {v : Value} {xs : List Int} (h : ownB w B v xs) (hk : ∀ k, k < w.heap.size → B ≤ k → w'.heap[k]? = w.heap[k]?) : ownB w' B v xs := by
  rcases h with ⟨h1, h2 | ⟨g, cap, cur, rfl, hb, hg, hr⟩⟩
  · exact ⟨h1, .inl h2⟩
  · exact ⟨h1, .inr ⟨g, cap, cur, rfl, hb, by rw [hk g (Array.getElem?_eq_some_iff.1 hg).1 hb]; exact hg, hr⟩⟩
theorem ownB.alloc {w : World} {B : Nat} {v : Value} {xs : List Int} (h : ownB w B v xs) (o : Obj) : ownB (w.alloc o) B v xs := World.ownsRow.alloc h o
theorem step_app2 {W : World} {ops : Array Oper} {o : Oper} {a : Act} {K : Act → World → Prop} {Q : Exit → Act → World → Prop} {E : Prop} (hgd : o.guard = none) (s x : Operand)
    (ho : o.op = .call { callee := .builtin .append, args := #[s, x], argTypes := #[187, 187] })
    (B : Nat) (v : Value) (xs : List Int) (c d : Int) (hown : ownB W B v xs) (hs : a.eval s = v) (g : Nat) (hg : W.heap[g]? = some (.cells #[.int .u8 c, .int .u8 d] 5 (0, 0))) (hx : a.eval x = .slice (some ⟨g, 0, none⟩) 2 2)
    (hlen : xs.length + 2 ≤ 140737488355328) (hB : B ≤ W.heap.size)
    (h : ∀ v' w', ownB w' B v' (xs ++ [c, d]) → W.grownBy w' v.ownBlock → K (a.put o.dst v') w') :
    if Region.wanted o (yielded ops a.tmps) = true then Oper.wp Tryz.prog o a W K Q else E := by
  obtain ⟨i0, hi, hz0, hz1, hz2⟩ := info_parts infoBy
  refine step_append_lies _ hgd s x 187 ho B 5 i0 (.int .u8 0) 1 1 Tryz.underlying187 hi hz0 hz1 hz2 rfl (by decide) v xs.length _ hs hown
    ⟨g, 0, none⟩ 2 2 [.int .u8 c, .int .u8 d] hx rfl (World.news_of_block (cs := #[.int .u8 c, .int .u8 d]) hg) (by intro u hu; simp at hu; rcases hu with rfl | rfl <;> rfl) (by decide) (by unfold maxLen; omega) (by omega) hB W.heap.size rfl ?_
  intro g' cap w' hown' hgrow hlies _
  refine h _ w' ?_ hgrow
  have : (xs ++ [c, d]).length = xs.length + 2 := by simp
  unfold ownB; rw [this, List.map_append]; exact hown'
theorem keepA {W w1 : World} {o : Obj} {row : Option Nat} {n j : Nat} {x : Value} (hgrow : (W.alloc o).drew.grownBy w1 row) (hc : W.cell? ⟨n, j, none⟩ = some x) (hne : some n ≠ row) (hn : n < W.heap.size) : w1.cell? ⟨n, j, none⟩ = some x := by
  have hsz := lt_alloc W o
  rw [hgrow.cell_far ⟨n, j, none⟩ (show n < (W.alloc o).heap.size by omega) hne]
  show (W.alloc o).cell? ⟨n, j, none⟩ = some x
  rw [World.cell?_of_block (w := W) (Below.heap_alloc W o n hn)]
  exact hc
theorem alloc_le {B : Nat} {W : World} {o : Obj} (h : B ≤ W.heap.size) : B ≤ (W.alloc o).drew.heap.size := Nat.le_trans h (Nat.le_of_lt (lt_alloc W o))
theorem below_grown {B : Nat} {W w1 : World} {o : Obj} {row : Option Nat} (hl : ∀ k, row = some k → B ≤ k) (h : B ≤ W.heap.size) (hg : (W.alloc o).drew.grownBy w1 row) : Below B W w1 :=
  ((Below.refl B W).alloc h o).drew.grown hg (alloc_le h) hl
set_option maxRecDepth 100000 in
theorem group_any (g : Nat) (low : Int) (w : World) (hg : g ≤ 4) (h0 : -9223372036854775808 ≤ low) (h1 : low ≤ 9223372036854775807) :
    Calls Tryz.prog 124 #[.int .i64 (g : Int), .int .i64 low] w fun e w' => e = .returned (.int .u8 ((32 * g + low) % 256)) ∧ w' = w := by
  have HW : Hid (wrap64 ((g : Int) * 32 + low) % 256 = (32 * g + low) % 256) := by show _ = _; unfold wrap64; omega
  go_enter Tryz.func124, Tryz.ntmps124
  go_wp2
  go_ret
  exact ⟨by rw [← HW.out]; rfl, rfl⟩
set_option maxRecDepth 100000 in
set_option maxHeartbeats 3200000 in
theorem draft_any (b : Value) (xs : List Int) (p : Int × Int × Int) (B : Nat) (w : World) (hB : B ≤ w.heap.size) (hp : wfP p) (hown : ownB w B b xs) (hx : xs.length ≤ 4194304) :
    Calls Tryz.prog 91 #[b, .agg #[.int .i64 p.1, .int .i64 p.2.1, .int .i64 p.2.2]] w fun e w' => ∃ b', e = .returned b' ∧ ownB w' B b' (xs ++ drP p) ∧ Below B w w' := by
  obtain ⟨k, i, n⟩ := p
  obtain ⟨⟨i0, i1⟩, ⟨n0, n1⟩⟩ := hp
  simp only at i0 i1 n0 n1 ⊢
  have HO0 : Hid (ownB w B b xs) := hown
  have HO : Hid (∀ o, ownB (w.alloc o) B b xs) := fun o => hown.same fun k hk _ => Below.heap_alloc w o k hk
  have HB : Hid (∀ o, Below B w (w.alloc o)) := fun o => (Below.refl _ _).alloc hB o
  have hl1 : xs.length + 1 ≤ 140737488355328 := by omega
  have hl2 : xs.length + 2 ≤ 140737488355328 := by omega
  have HG : Hid (∀ W (g : Nat) (low : Int), g ≤ 4 → -9223372036854775808 ≤ low → low ≤ 9223372036854775807 → Calls Tryz.prog 124 #[.int .i64 (g : Int), .int .i64 low] W fun e w' => e = .returned (.int .u8 ((32 * g + low) % 256)) ∧ w' = W) := fun W g low a b c => group_any g low W a b c
  clear hown hx
  by_cases k0 : k = 0
  · subst k0
    have HE : Hid (drP (0, i, n) = [n % 256]) := rfl
    go_enter Tryz.func91, Tryz.ntmps91
    go_wp2_with (at_builtin; refine app_oneG (by rfl) _ _ (by rfl) B _ xs _ (HO.out _) (by rfl) (w.heap.size + 1) (by simp) (by rfl) hl1 (Nat.le_trans hB (HB.out _).size) ?_; intro v' w6 hown6 hbel6; have HO6 : Hid (ownB w6 B v' _) := hown6; have HB6 : Hid (Below B w w6) := (HB.out _).trans hbel6; clear hown6 hbel6)
    go_ret
    exact ⟨_, rfl, by rw [HE.out]; exact HO6.out, HB6.out⟩
  by_cases k1 : k = 1
  · subst k1
    have HE : Hid (drP (1, i, n) = [i % 256]) := rfl
    have HC : Hid (∀ W, Calls Tryz.prog 124 #[.int .i64 0, .int .i64 (i)] W fun e w' => e = .returned (.int .u8 (i % 256)) ∧ w' = W) := fun W => (group_any 0 (i) W (by omega) i0 i1).mono fun e w' ⟨he, hw⟩ => ⟨by rw [he, show (32 * ((0 : Nat) : Int) + (i)) % 256 = i % 256 from by omega], hw⟩
    go_enter Tryz.func91, Tryz.ntmps91
    go_wp2_with fail
    refine (HC.out _).mono ?_
    rintro e w1 ⟨rfl, rfl⟩
    go_wp2_with (at_builtin; refine app_oneG (by rfl) _ _ (by rfl) B _ xs _ (HO.out _) (by rfl) (w.heap.size + 1) (by simp) (by rfl) hl1 (Nat.le_trans hB (HB.out _).size) ?_; intro v' w6 hown6 hbel6; have HO6 : Hid (ownB w6 B v' _) := hown6; have HB6 : Hid (Below B w w6) := (HB.out _).trans hbel6; clear hown6 hbel6)
    go_ret
    exact ⟨_, rfl, by rw [HE.out]; exact HO6.out, HB6.out⟩
  by_cases k3 : k = 3
  · subst k3
    have HE : Hid (drP (3, i, n) = [(64 + i) % 256]) := rfl
    have HC : Hid (∀ W, Calls Tryz.prog 124 #[.int .i64 2, .int .i64 (i)] W fun e w' => e = .returned (.int .u8 ((64 + i) % 256)) ∧ w' = W) := fun W => (group_any 2 (i) W (by omega) i0 i1).mono fun e w' ⟨he, hw⟩ => ⟨by rw [he, show (32 * ((2 : Nat) : Int) + (i)) % 256 = (64 + i) % 256 from by omega], hw⟩
    go_enter Tryz.func91, Tryz.ntmps91
    go_wp2_with fail
    refine (HC.out _).mono ?_
    rintro e w1 ⟨rfl, rfl⟩
    go_wp2_with (at_builtin; refine app_oneG (by rfl) _ _ (by rfl) B _ xs _ (HO.out _) (by rfl) (w.heap.size + 1) (by simp) (by rfl) hl1 (Nat.le_trans hB (HB.out _).size) ?_; intro v' w6 hown6 hbel6; have HO6 : Hid (ownB w6 B v' _) := hown6; have HB6 : Hid (Below B w w6) := (HB.out _).trans hbel6; clear hown6 hbel6)
    go_ret
    exact ⟨_, rfl, by rw [HE.out]; exact HO6.out, HB6.out⟩
  by_cases k4 : k = 4
  · subst k4
    have HE : Hid (drP (4, i, n) = [(96 + (n - 1)) % 256]) := rfl
    have HC : Hid (∀ W, Calls Tryz.prog 124 #[.int .i64 3, .int .i64 (wrap64 (n - 1))] W fun e w' => e = .returned (.int .u8 ((96 + (n - 1)) % 256)) ∧ w' = W) := fun W => (group_any 3 (wrap64 (n - 1)) W (by omega) (by unfold wrap64; omega) (by unfold wrap64; omega)).mono fun e w' ⟨he, hw⟩ => ⟨by rw [he, show (32 * ((3 : Nat) : Int) + (wrap64 (n - 1))) % 256 = (96 + (n - 1)) % 256 from by unfold wrap64; omega], hw⟩
    go_enter Tryz.func91, Tryz.ntmps91
    go_wp2_with fail
    refine (HC.out _).mono ?_
    rintro e w1 ⟨rfl, rfl⟩
    go_wp2_with (at_builtin; refine app_oneG (by rfl) _ _ (by rfl) B _ xs _ (HO.out _) (by rfl) (w.heap.size + 1) (by simp) (by rfl) hl1 (Nat.le_trans hB (HB.out _).size) ?_; intro v' w6 hown6 hbel6; have HO6 : Hid (ownB w6 B v' _) := hown6; have HB6 : Hid (Below B w w6) := (HB.out _).trans hbel6; clear hown6 hbel6)
    go_ret
    exact ⟨_, rfl, by rw [HE.out]; exact HO6.out, HB6.out⟩
  by_cases k5 : k = 5
  · subst k5
    have HE : Hid (drP (5, i, n) = [(128 + i) % 256]) := rfl
    have HC : Hid (∀ W, Calls Tryz.prog 124 #[.int .i64 4, .int .i64 (i)] W fun e w' => e = .returned (.int .u8 ((128 + i) % 256)) ∧ w' = W) := fun W => (group_any 4 (i) W (by omega) i0 i1).mono fun e w' ⟨he, hw⟩ => ⟨by rw [he, show (32 * ((4 : Nat) : Int) + (i)) % 256 = (128 + i) % 256 from by omega], hw⟩
    go_enter Tryz.func91, Tryz.ntmps91
    go_wp2_with fail
    refine (HC.out _).mono ?_
    rintro e w1 ⟨rfl, rfl⟩
    go_wp2_with (at_builtin; refine app_oneG (by rfl) _ _ (by rfl) B _ xs _ (HO.out _) (by rfl) (w.heap.size + 1) (by simp) (by rfl) hl1 (Nat.le_trans hB (HB.out _).size) ?_; intro v' w6 hown6 hbel6; have HO6 : Hid (ownB w6 B v' _) := hown6; have HB6 : Hid (Below B w w6) := (HB.out _).trans hbel6; clear hown6 hbel6)
    go_ret
    exact ⟨_, rfl, by rw [HE.out]; exact HO6.out, HB6.out⟩
  by_cases k2 : k = 2
  · subst k2
    have HE : Hid (drP (2, i, n) = [(32 + i) % 256, (n - 1) % 256]) := rfl
    have HC : Hid (∀ W, Calls Tryz.prog 124 #[.int .i64 1, .int .i64 i] W fun e w' => e = .returned (.int .u8 ((32 + i) % 256)) ∧ w' = W) := fun W => (group_any 1 i W (by omega) i0 i1).mono fun e w' ⟨he, hw⟩ => ⟨by rw [he, show (32 * ((1 : Nat) : Int) + i) % 256 = (32 + i) % 256 from by omega], hw⟩
    have hw : wrap64 (n - 1) % 256 = (n - 1) % 256 := by unfold wrap64; omega
    have hne : (some w.heap.size : Option Nat) ≠ b.ownBlock := fun h => by have := World.ownsRow.lt HO0.out _ h.symm; omega
    have HL : Hid (∀ k, b.ownBlock = some k → B ≤ k) := fun k hk => (World.ownsRow.lt HO0.out k hk).1
    go_enter Tryz.func91, Tryz.ntmps91
    go_wp2_with fail
    have c1 : (w.alloc (.cells #[.int .i64 2, .int .i64 i, .int .i64 n] 110)).cell? ⟨w.heap.size, 1, none⟩ = some (.int .i64 i) := by simp [go_sem]
    have c2 : (w.alloc (.cells #[.int .i64 2, .int .i64 i, .int .i64 n] 110)).cell? ⟨w.heap.size, 2, none⟩ = some (.int .i64 n) := by simp [go_sem]
    have q0 := World.new_ne _ _ c1
    have hsz := lt_alloc w (.cells #[.int .i64 2, .int .i64 i, .int .i64 n] 110)
    have HO2 : Hid (ownB (w.alloc (.cells #[.int .i64 2, .int .i64 i, .int .i64 n] 110)) B b xs) := HO0.out.alloc _
    have HBW : Hid (Below B w (w.alloc (.cells #[.int .i64 2, .int .i64 i, .int .i64 n] 110))) := (Below.refl _ _).alloc hB _
    generalize w.alloc (.cells #[.int .i64 2, .int .i64 i, .int .i64 n] 110) = W at *
    have hBW : B ≤ W.heap.size := by omega
    generalize w.heap.size = m at *
    have hc1 := c1
    have hc2 := c2
    have hneN := hne
    have hnN := hsz
    go_region_held3 (fun W' => W'.cell? ⟨m, 1, none⟩ = some (.int .i64 i) ∧ W'.cell? ⟨m, 2, none⟩ = some (.int .i64 n)) (first | go_keep | exact ⟨keepA hgrow hc1 hneN hnN, keepA hgrow hc2 hneN hnN⟩) (first | (go_at_call 124; refine (HC.out _).mono ?_; rintro e w1 ⟨rfl, rfl⟩) | ((refine step_app2 (by rfl) _ _ (by rfl) B b xs _ _ ((HO2.out.alloc _).drew) (by rfl) _ (heap_alloc_new _ _) (by rfl) (by omega) (alloc_le hBW) ?_; intro v' w1 hown1 hgrow)))
    have EW : Hid (IntKind.u8.wrap (IntKind.i64.wrap (n - 1)) = (n - 1) % 256) := by
      show (IntKind.i64.wrap (n - 1)) % 256 = _
      rw [IntKind.wrap_i64]; omega
    have HO6 : Hid (ownB w1 B v' _) := hown1
    have HB6 : Hid (Below B w w1) := HBW.out.trans (below_grown HL.out hBW hgrow)
    clear hown1 hgrow c1 c2 hc1 hc2
    go_wp2
    go_ret
    exact ⟨_, rfl, by rw [HE.out, ← EW.out]; exact HO6.out, HB6.out⟩
  by_cases k6 : k = 6
  · subst k6
    have HE : Hid (drP (6, i, n) = [160]) := rfl
    go_enter Tryz.func91, Tryz.ntmps91
    go_wp2_with (at_builtin; refine app_oneG (by rfl) _ _ (by rfl) B _ xs _ (HO.out _) (by rfl) (w.heap.size + 1) (by simp) (by rfl) hl1 (Nat.le_trans hB (HB.out _).size) ?_; intro v' w6 hown6 hbel6; have HO6 : Hid (ownB w6 B v' _) := hown6; have HB6 : Hid (Below B w w6) := (HB.out _).trans hbel6; clear hown6 hbel6)
    go_ret
    exact ⟨_, rfl, by rw [HE.out]; exact HO6.out, HB6.out⟩
  have HE : Hid (drP (k, i, n) = []) := by
    show _ = _
    unfold drP
    simp only
    rw [if_neg k0, if_neg k1, if_neg k2, if_neg k3, if_neg k4, if_neg k5, if_neg k6]
  have q0 : (k == 0) = false := by simpa using k0
  have q1 : (k == 1) = false := by simpa using k1
  have q2 : (k == 2) = false := by simpa using k2
  have q3 : (k == 3) = false := by simpa using k3
  have q4 : (k == 4) = false := by simpa using k4
  have q5 : (k == 5) = false := by simpa using k5
  have q6 : (k == 6) = false := by simpa using k6
  go_enter Tryz.func91, Tryz.ntmps91
  go_wp2
  go_ret
  exact ⟨_, rfl, by rw [HE.out, List.append_nil]; exact HO.out _, HB.out _⟩
set_option maxRecDepth 100000 in
set_option maxHeartbeats 1600000 in
theorem equal_any (a b : Value) (vs us : List (Int × Int × Int)) (B : Nat) (w : World) (hB : B ≤ w.heap.size) (ha : SeesP w B a vs) (hb : SeesP w B b us) :
    Calls Tryz.prog 92 #[a, b] w fun e w' => e = .returned (.bool (decide (vs = us))) ∧ Below B w w' := by
  obtain ⟨ao, cap, rfl, hl1, hc1, hs1⟩ := ha
  obtain ⟨bo, cap2, rfl, hl2, hc2, hs2⟩ := hb
  have HA : Hid _ := hs1
  have HBs : Hid _ := hs2
  have hgd := guardP
  clear hs1 hs2
  by_cases hn : vs.length = us.length
  · go_enter Tryz.func92, Tryz.ntmps92
    go_wp2
    go_loopw [13] (fun i wr => ∃ k : Nat, k ≤ vs.length ∧ i = .int .i64 k ∧ decide (vs = us) = decide (vs.drop k = us.drop k) ∧ Below B w wr) (fun i _ => vs.length - (intOf i).toNat)
    case atStart => exact ⟨0, by omega, rfl, rfl, Below.refl _ _⟩
    case round =>
      obtain ⟨k, hk1, rfl, hcmp, hbel⟩ := hrel
      have HC : Hid (decide (vs = us) = decide (vs.drop k = us.drop k)) := hcmp
      have HBl : Hid (Below B w wr) := hbel
      clear hbel hcmp
      by_cases h1 : k < vs.length
      · have h2 : k < us.length := by omega
        obtain ⟨b1, o1, e1, hb1, x0, x1, x2⟩ := HA.out k h1
        have y0 := (HBl.out.cell (p := ⟨b1, o1 + k * 3, none⟩) hb1).trans x0
        have y1 := (HBl.out.cell (p := ⟨b1, o1 + k * 3 + 1, none⟩) hb1).trans x1
        have y2 := (HBl.out.cell (p := ⟨b1, o1 + k * 3 + 2, none⟩) hb1).trans x2
        clear x0 x1 x2
        subst e1
        obtain ⟨b2, o2, e2, hb2, x0, x1, x2⟩ := HBs.out k h2
        have z0 := (HBl.out.cell (p := ⟨b2, o2 + k * 3, none⟩) hb2).trans x0
        have z1 := (HBl.out.cell (p := ⟨b2, o2 + k * 3 + 1, none⟩) hb2).trans x1
        have z2 := (HBl.out.cell (p := ⟨b2, o2 + k * 3 + 2, none⟩) hb2).trans x2
        clear x0 x1 x2
        subst e2
        have hev := fun w => eqP vs[k] us[k] w
        have HS : Hid _ := sameL_step vs us k h1 h2
        cases hd : decide (vs[k] = us[k])
        · rw [hd] at hev HS
          go_wp2_with fail
          go_quiet (fail)
          go_wp2
          go_ret
          exact ⟨by rw [HC.out, HS.out]; rfl, HBl.out.trans (below_drewN _)⟩
        · rw [hd] at hev HS
          go_wp2_with fail
          go_quiet (fail)
          go_wp2
          go_roundw
          case rel => exact ⟨k + 1, by omega, by go_num, by rw [HC.out, HS.out]; rfl, HBl.out.trans (below_drewN _)⟩
          case measure => simp [intOf]; omega
      · go_wp2
        go_ret
        exact ⟨by rw [HC.out, List.drop_eq_nil_of_le (by omega), List.drop_eq_nil_of_le (by omega)]; rfl, HBl.out⟩
  · have HE : Hid (decide (vs = us) = false) := by show _ = _; simp; intro e; exact hn (by rw [e])
    have hne : ((vs.length : Int) != (us.length : Int)) = true := by simp; omega
    go_enter Tryz.func92, Tryz.ntmps92
    go_wp2
    go_ret
    exact ⟨by rw [HE.out]; rfl, Below.refl _ _⟩

def encB (vs : List (Int × Int × Int)) : List Int := vs.flatMap drP
theorem drP_len (p : Int × Int × Int) : (drP p).length ≤ 2 := by
  unfold drP
  repeat (split <;> try simp)
theorem encB_len : ∀ vs : List (Int × Int × Int), (encB vs).length ≤ 2 * vs.length
  | [] => by simp [encB]
  | p :: r => by
    have h1 := drP_len p
    have h2 := encB_len r
    have e : encB (p :: r) = drP p ++ encB r := by unfold encB; rw [List.flatMap_cons]
    rw [e, List.length_append, List.length_cons]; omega
theorem encB_take (vs : List (Int × Int × Int)) (k : Nat) (h : k < vs.length) : encB (vs.take (k + 1)) = encB (vs.take k) ++ drP vs[k] := by
  unfold encB
  rw [List.take_add_one, List.flatMap_append, List.getElem?_eq_getElem h]
  simp
/-- What Encode answers. -/
def encA (vs : List (Int × Int × Int)) : Value :=
  if dL (strOfNums (encB vs)).data.toList = vs then .tuple #[.string (strOfNums (encB vs)), .int .i64 0] else .tuple #[.string ⟨#[]⟩, .int .i64 33]
set_option maxRecDepth 100000 in
set_option maxHeartbeats 3200000 in
theorem encode_any (a : Value) (vs : List (Int × Int × Int)) (B : Nat) (w : World) (hB : B ≤ w.heap.size) (ha : SeesP w B a vs) (hv : ∀ p ∈ vs, wfP p) (hl : vs.length ≤ 1048577) :
    Calls Tryz.prog 47 #[a] w fun e w' => e = .returned (encA vs) ∧ Below B w w' := by
  have HS0 : Hid (SeesP w B a vs) := ha
  obtain ⟨ao, cap, rfl, hl1, hc1, hs1⟩ := ha
  have HA : Hid _ := hs1
  clear hs1
  go_enter Tryz.func47, Tryz.ntmps47
  go_wp2_with fail
  go_loopw [4, 10] (fun c i wr => ∃ k : Nat, k ≤ vs.length ∧ i = .int .i64 (k : Int) ∧ ownB wr w.heap.size c (encB (vs.take k)) ∧ Below w.heap.size w wr) (fun _ i _ => vs.length - (intOf i).toNat)
  case atStart => exact ⟨0, by omega, rfl, ownB_nil _ _, Below.refl _ _⟩
  case round =>
    obtain ⟨k, hk, rfl, hown, hbel⟩ := hrel
    have HO : Hid (ownB wr w.heap.size _ (encB (vs.take k))) := hown
    have HB : Hid (Below w.heap.size w wr) := hbel
    clear hown hbel
    by_cases h1 : k < vs.length
    · obtain ⟨b1, o1, e1, hb1, x0, x1, x2⟩ := HA.out k h1
      have hbw : b1 < w.heap.size := by omega
      have y0 := (HB.out.cell (p := ⟨b1, o1 + k * 3, none⟩) hbw).trans x0
      have y1 := (HB.out.cell (p := ⟨b1, o1 + k * 3 + 1, none⟩) hbw).trans x1
      have y2 := (HB.out.cell (p := ⟨b1, o1 + k * 3 + 2, none⟩) hbw).trans x2
      clear x0 x1 x2
      subst e1
      have HT : Hid _ := encB_take vs k h1
      have hwf := hv _ (List.getElem_mem h1)
      have hel := encB_len (vs.take k)
      rw [List.length_take] at hel
      have h1' : (k : Int) < (vs.length : Int) := by omega
      have HD : Hid (∀ o, Calls Tryz.prog 91 #[_, .agg #[.int .i64 vs[k].1, .int .i64 vs[k].2.1, .int .i64 vs[k].2.2]] (wr.alloc o) fun e w' => ∃ b', e = .returned b' ∧ ownB w' w.heap.size b' (encB (vs.take k) ++ drP vs[k]) ∧ Below w.heap.size (wr.alloc o) w') := fun o => draft_any _ (encB (vs.take k)) vs[k] w.heap.size (wr.alloc o) (Nat.le_trans HB.out.size (Nat.le_of_lt (lt_alloc wr o))) hwf (HO.out.alloc o) (by omega)
      clear HA hel hwf
      go_wp2_with fail
      refine (HD.out _).mono ?_
      rintro e w1 ⟨b', rfl, ho, hb⟩
      have HO1 : Hid (ownB w1 w.heap.size b' _) := ho
      have HB1 : Hid (Below w.heap.size w w1) := (HB.out.alloc HB.out.size _).trans hb
      clear ho hb HD y0 y1 y2
      go_wp2
      go_roundw
      case rel => exact ⟨k + 1, by omega, by go_num, by rw [HT.out]; exact HO1.out, HB1.out⟩
      case measure => simp [intOf]; omega
    · have e : k = vs.length := by omega
      subst e
      have h2 := HO.out
      rw [List.take_length] at h2
      have HO2 : Hid (ownB wr w.heap.size _ (encB vs)) := h2
      clear h2
      have hcv := HO2.out.conv
      have hel := encB_len vs
      have hsz := strOfNums_size (encB vs)
      have hDc := decode_any (strOfNums (encB vs)) wr (by omega)
      have hdl := (dL_len _ (strOfNums (encB vs)).data.toList (Nat.le_refl _)).1
      rw [len_list] at hdl
      have HDc : Hid (∀ _ : Unit, _) := fun _ => hDc
      have HF : Hid (∀ b, decide (dL (strOfNums (encB vs)).data.toList = vs) = b → encA vs = if b then .tuple #[.string (strOfNums (encB vs)), .int .i64 0] else .tuple #[.string ⟨#[]⟩, .int .i64 33]) := fun b hb => by
        unfold encA
        cases b
        · rw [if_neg (by simpa using hb)]; rfl
        · rw [if_pos (by simpa using hb)]; rfl
      have HL : Hid ((dL (strOfNums (encB vs)).data.toList).length ≤ 140737488355328) := by show _ ≤ _; omega
      have hlt : ¬ ((vs.length : Nat) : Int) < ((vs.length : Nat) : Int) := by omega
      clear hDc hel hsz hdl HO HA hv
      generalize strOfNums (encB vs) = t at *
      go_wp2_with fail
      refine (HDc.out ()).mono ?_
      rintro e w1 ⟨v, rfl, ho, hb⟩
      have HB1 : Hid (Below w.heap.size w w1) := HB.out.trans (hb.mono HB.out.size)
      have HE : Hid (∀ _ : Unit, _) := fun _ => equal_any v _ _ vs w1.heap.size w1 (Nat.le_refl _) (ho.seesAll HL.out) ((HS0.out.later (HB1.out.mono hB)).mono (Nat.le_trans hB HB1.out.size))
      clear ho hb HB HDc HO2 hcv
      cases hb : decide (dL t.data.toList = vs)
      · rw [hb] at HE
        have HR := HF.out _ hb
        have HR2 : Hid _ := HR
        clear HF HR hb
        go_wp2_with fail
        refine (HE.out ()).mono ?_
        rintro e w2 ⟨rfl, h2⟩
        have HB2 : Hid (Below w.heap.size w w2) := HB1.out.trans (h2.mono HB1.out.size)
        clear h2 HB1 HE
        go_wp2
        go_ret2
        exact ⟨by rw [HR2.out]; rfl, HB2.out.mono hB⟩
      · rw [hb] at HE
        have HR := HF.out _ hb
        have HR2 : Hid _ := HR
        clear HF HR hb
        go_wp2_with fail
        refine (HE.out ()).mono ?_
        rintro e w2 ⟨rfl, h2⟩
        have HB2 : Hid (Below w.heap.size w w2) := HB1.out.trans (h2.mono HB1.out.size)
        clear h2 HB1 HE
        go_wp2
        go_ret2
        exact ⟨by rw [HR2.out]; rfl, HB2.out.mono hB⟩
theorem dL_oneX (b : UInt8) (l : List UInt8) (h : b.toNat / 32 ≠ 1) : dL (b :: l) = one b.toNat :: dL l := by
  match l with
  | [] => rfl
  | c :: r => simp [dL, h]
/-- The picks of a word of steps. -/
abbrev wpk (ws : List Nat) : List (Int × Int × Int) := ws.map (fun m : Nat => ((1 : Int), (m : Int), (1 : Int)))
theorem dL_word : ∀ ws : List Nat, (∀ m ∈ ws, m < 4) → dL (strOfNums (encB (wpk ws))).data.toList = wpk ws
  | [], _ => rfl
  | m :: ws, h => by
    have hm := h m (List.mem_cons_self ..)
    have ih := dL_word ws (fun x hx => h x (List.mem_cons_of_mem _ hx))
    have e : encB (wpk (m :: ws)) = ((m : Int) % 256) :: encB (wpk ws) := by
      unfold encB wpk
      rw [List.map_cons, List.flatMap_cons]
      rfl
    have e2 : (strOfNums (((m : Int) % 256) :: encB (wpk ws))).data.toList = UInt8.ofNat ((m : Int) % 256).toNat :: (strOfNums (encB (wpk ws))).data.toList := rfl
    have e3 : (UInt8.ofNat ((m : Int) % 256).toNat).toNat = m := by rw [UInt8.toNat_ofNat']; omega
    rw [e, e2, dL_oneX _ _ (by rw [e3]; omega), ih, e3]
    show one m :: _ = _ :: _
    congr 1
    unfold one
    rw [if_pos (by omega), show m % 32 = m by omega]
theorem encA_word (ws : List Nat) (h : ∀ m ∈ ws, m < 4) : encA (wpk ws) = .tuple #[.string (strOfNums (encB (wpk ws))), .int .i64 0] := by
  unfold encA
  rw [if_pos (dL_word ws h)]
theorem str_size (l : List Int) : (strOfNums l).size = l.length := by
  show (strOfNums l).data.toList.length = _
  simp [strOfNums]
end Go.Proofs.YtdpebhdjcgiboaaGreat

namespace Go.Proofs.YtdpebhdjcgiboaaGreat
open Go.Shelf
set_option maxRecDepth 100000
def sortOut_ren : Go.Shelf.Ren := ⟨fun | 6 => 55 | 15 => 98 | 14 => 97 | 28 => 133 | 29 => 134 | 20 => 125 | 21 => 126 | 22 => 127 | 23 => 128 | 24 => 129 | 25 => 130 | 26 => 131 | 27 => 132 | 46 => 168 | 47 => 169 | 48 => 170 | 49 => 171 | 50 => 172 | 57 => 193 | n => n, fun | 22 => 63 | 24 => 51 | 25 => 129 | 3 => 3 | 39 => 99 | 0 => 0 | 53 => 198 | 55 => 55 | 4 => 4 | 46 => 235 | 45 => 234 | 50 => 221 | 5 => 5 | 9 => 9 | 66 => 284 | 70 => 287 | 76 => 305 | 77 => 161 | n => n, fun | n => n⟩
def revPick_ren : Go.Shelf.Ren := ⟨fun | 35 => 93 | n => n, fun | 22 => 26 | 23 => 110 | 3 => 3 | 4 => 4 | 0 => 0 | n => n, fun | n => n⟩
theorem revPick : Go.Proofs.SlLaysE0.n35 Tryz.prog revPick_ren := {
  mixed := by kernel_rfl
  f35 := ⟨Tryz.f93.name, by decide, Tryz.func93.trans (congrArg some (by kernel_rfl))⟩
  t0 := Tryz.underlying0
  a0 := Tryz.isAgg0
  z0 := Tryz.sizeOf0
  v0 := Tryz.zeroValue0
  t3 := Tryz.underlying3
  a3 := Tryz.isAgg3
  z3 := Tryz.sizeOf3
  v3 := Tryz.zeroValue3
  t4 := Tryz.underlying4
  a4 := Tryz.isAgg4
  z4 := Tryz.sizeOf4
  v4 := Tryz.zeroValue4
  t22 := Tryz.underlying26
  a22 := Tryz.isAgg26
  z22 := Tryz.sizeOf26
  v22 := Tryz.zeroValue26 }
end Go.Proofs.YtdpebhdjcgiboaaGreat
