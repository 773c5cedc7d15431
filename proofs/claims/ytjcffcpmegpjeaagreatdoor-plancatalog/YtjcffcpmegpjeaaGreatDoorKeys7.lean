import Derived.Test.YtjcffcpmegpjeaaGreatDoorKeys3
import Derived.Test.YtjcffcpmegpjeaaGreatDoorKeys1
import Derived.Laws.ShiftsVarLaws
import Derived.Deep.AppendLies
import Derived.Deep.DrawnRows
namespace Go.Proofs.YtjcffcpmegpjeaaGreatDoor
open Go.ChangeShapes Go.WideShapes Go.ChangeAt Go.RowKit
set_option linter.unusedVariables false
set_option maxRecDepth 100000

theorem szF_le : ∀ (f u : Nat), szF f u ≤ f
  | 0, u => by simp [szF]
  | f + 1, u => by have := szF_le f (u / 256); unfold szF; split <;> omega
theorem szB_le (u : Nat) : szB u ≤ 8 := szF_le 8 u
theorem bytes_any (u : Nat) (w : World) (hu : u < 18446744073709551616) : Calls Tryz.prog 148 #[.int .u64 u] w fun e w' => e = .returned (.int .i64 (szB u)) ∧ w' = w := by
  go_enter Tryz.func148, Tryz.ntmps148
  go_wp2_with (go_at_call 160; refine (len_any u _ hu).mono ?_; rintro e w' ⟨⟨L, rfl, l0, l1, hl⟩, rfl⟩; have HL : Hid ((L + 7) / 8 = szB u) := hl; clear hl)
  go_ret
  exact ⟨ret_t _ HL.out, rfl⟩
/-- The n lowest bytes of v, the highest first. -/
def hiB : Nat → Int → List Int
  | 0, _ => []
  | n + 1, v => (v / 2 ^ (8 * n) % 256) :: hiB n v
theorem hiB_len : ∀ (n : Nat) (v : Int), (hiB n v).length = n
  | 0, _ => rfl
  | n + 1, v => by simp [hiB, hiB_len n v]
/-- From the slice b in w to the slice c in w': no block is turned but b's own. -/
structure Gr (b : Value) (w : World) (c : Value) (w' : World) : Prop where
  far : ∀ k, k < w.heap.size → some k ≠ b.ownBlock → w'.heap[k]? = w.heap[k]?
  own : c.ownBlock = b.ownBlock ∨ ∀ k, c.ownBlock = some k → w.heap.size ≤ k
  size : w.heap.size ≤ w'.heap.size
theorem Gr.refl (b : Value) (w : World) : Gr b w b w := ⟨fun _ _ _ => rfl, .inl rfl, Nat.le_refl _⟩
theorem Gr.trans {b c d : Value} {w w1 w2 : World} (h : Gr b w c w1) (k : Gr c w1 d w2) : Gr b w d w2 := by
  refine ⟨fun j hj hn => ?_, ?_, Nat.le_trans h.size k.size⟩
  · rw [k.far j (Nat.lt_of_lt_of_le hj h.size) ?_, h.far j hj hn]
    rcases h.own with e | e
    · rw [e]; exact hn
    · intro e2; have := e j e2.symm; omega
  · rcases k.own with e | e
    · rcases h.own with e2 | e2
      · exact .inl (e.trans e2)
      · exact .inr (by rw [e]; exact e2)
    · exact .inr fun j hj => Nat.le_trans h.size (e j hj)
theorem Gr.alloc (b : Value) (w : World) (o : Obj) : Gr b w b (w.alloc o) := ⟨fun k hk _ => Below.heap_alloc w o k hk, .inl rfl, Nat.le_of_lt (lt_alloc w o)⟩
theorem app_oneL {wr : World} {ops : Array Oper} {rest : List Oper} {o : Oper} {a : Act} {Q : Exit → Act → World → Prop} (hgd : o.guard = none) (s x : Operand)
    (ho : o.op = .call { callee := .builtin .append, args := #[s, x], argTypes := #[72, 72] })
    (B : Nat) (v : Value) (xs : List Int) (c : Int) (hown : ownB wr B v xs) (hs : a.eval s = v) (g : Nat) (hg : g = wr.heap.size) (hx : a.eval x = .slice (some ⟨g, 0, none⟩) 1 1)
    (hlen : xs.length + 1 ≤ 140737488355328) (hB : B ≤ wr.heap.size)
    (h : ∀ v' w', ownB w' B v' (xs ++ [c]) → Below B wr w' → Gr v wr v' w' → wpList Tryz.prog ops Q rest (a.put o.dst v') w') :
    wpList Tryz.prog ops Q (o :: rest) a (wr.alloc (.cells #[.int .u8 c] 5)) := by
  subst hg
  obtain ⟨i0, hi, hz0, hz1, hz2⟩ := info_parts infoB
  refine wpList_append_lies _ hgd s x 72 ho B 5 i0 (.int .u8 0) 1 1 Tryz.underlying72 hi hz0 hz1 hz2 rfl (by decide) v xs.length _ hs (World.ownsRow.alloc hown _)
    ⟨wr.heap.size, 0, none⟩ 1 1 [.int .u8 c] hx rfl (World.news_of_block (cs := #[.int .u8 c]) (heap_alloc_new wr _)) (by intro u hu; simp at hu; subst hu; rfl) (by decide) (by unfold maxLen; omega) (by omega) (by simp; omega) (wr.heap.size + 1) (by simp) ?_
  intro g' cap w' hown' hgrow hlies _
  have hsz := lt_alloc wr (.cells #[.int .u8 c] 5)
  refine h _ w' ?_ ?_ ?_
  · have : (xs ++ [c]).length = xs.length + 1 := by simp
    unfold ownB; rw [this, List.map_append]; exact hown'
  · exact ((Below.refl _ _).alloc hB _).grown hgrow (by omega) (fun k hk => (World.ownsRow.lt hown k hk).1)
  · refine ⟨fun k hk hn => ?_, ?_, ?_⟩
    · rw [hgrow.block k (by omega) hn]; exact Below.heap_alloc wr _ k hk
    · rcases hlies with e | e
      · exact .inl e.symm
      · exact .inr fun k hk => by simp [Value.ownBlock] at hk; omega
    · have := hgrow.size; omega
set_option maxRecDepth 100000 in
set_option maxHeartbeats 800000 in
theorem layHF (b : Value) (xs : List Int) (v : Int) (n : Nat) (B : Nat) (w : World) (hn : n ≤ 8) (h0 : 0 ≤ v) (h1 : v ≤ 18446744073709551615) (hB : B ≤ w.heap.size) (hown : ownB w B b xs) (hx : xs.length ≤ 140737488353280) :
    Calls Tryz.prog 149 #[b, .int .u64 v, .int .i64 n] w fun e w' => ∃ b', e = .returned b' ∧ ownB w' B b' (xs ++ hiB n v) ∧ Below B w w' ∧ Gr b w b' w' := by
  go_enter Tryz.func149, Tryz.ntmps149
  go_wp2
  go_loopw [0, 7] (fun c i wr => ∃ (k : Nat) (done : List Int), k ≤ n ∧ i = .int .i64 ((k : Int) - 1) ∧ ownB wr B c (xs ++ done) ∧ done ++ hiB k v = hiB n v ∧ Below B w wr ∧ Gr b w c wr) (fun _ i _ => (intOf i + 1).toNat)
  case atStart => exact ⟨n, [], by omega, rfl, by simpa using hown, rfl, Below.refl _ _, Gr.refl _ _⟩
  case round =>
    obtain ⟨k, done, hk, rfl, hown1, hd, hbel, hgr⟩ := hrel
    have HD : Hid (done ++ hiB k v = hiB n v) := hd
    have HB : Hid (Below B w wr) := hbel
    have HG : Hid (Gr b w _ wr) := hgr
    have hBr : B ≤ wr.heap.size := by have := hbel.size; omega
    have HO : Hid (ownB wr B _ (xs ++ done)) := hown1
    have hdl : done.length ≤ 8 := by have h3 := congrArg List.length hd; rw [List.length_append, hiB_len, hiB_len] at h3; omega
    clear hd hbel hown1 hgr
    match k, hk, HD with
    | 0, hk, HD =>
      go_wp2
      go_ret
      refine ⟨_, rfl, ?_, HB.out, HG.out⟩
      have h4 := HD.out
      rw [show hiB 0 v = [] from rfl, List.append_nil] at h4
      rw [← h4]
      exact HO.out
    | k + 1, hk, HD =>
      go_wp2_with (at_builtin; refine app_oneL (by rfl) _ _ (by rfl) B _ (xs ++ done) _ HO.out (by rfl) _ (by rfl) (by rfl) (by simp; omega) hBr ?_; intro v' w1 hown1 hbel1 hgr1; have HO1 : Hid _ := hown1; have HB1 : Hid _ := hbel1; have HG1 : Hid (Gr _ wr v' w1) := hgr1; clear hown1 hbel1 hgr1)
      go_roundw
      case rel => exact ⟨k, done ++ [v / 2 ^ (8 * k) % 256], by omega, rfl, by rw [← List.append_assoc]; exact HO1.out, by rw [List.append_assoc, List.singleton_append]; exact HD.out, HB.out.trans HB1.out, HG.out.trans HG1.out⟩
      case measure => simp [intOf]
theorem ownB.alloc {w : World} {B : Nat} {v : Value} {xs : List Int} (h : ownB w B v xs) (o : Obj) : ownB (w.alloc o) B v xs := World.ownsRow.alloc h o
theorem app_oneG {wr : World} {ops : Array Oper} {rest : List Oper} {o : Oper} {a : Act} {Q : Exit → Act → World → Prop} (hgd : o.guard = none) (s x : Operand)
    (ho : o.op = .call { callee := .builtin .append, args := #[s, x], argTypes := #[72, 72] })
    (B : Nat) (v : Value) (xs : List Int) (c : Int) (hown : ownB wr B v xs) (hs : a.eval s = v) (g : Nat) (hg : g = wr.heap.size) (hx : a.eval x = .slice (some ⟨g, 0, none⟩) 1 1)
    (hlen : xs.length + 1 ≤ 140737488355328) (hB : B ≤ wr.heap.size)
    (h : ∀ v' w', ownB w' B v' (xs ++ [c]) → Below B wr w' → wpList Tryz.prog ops Q rest (a.put o.dst v') w') :
    wpList Tryz.prog ops Q (o :: rest) a (wr.alloc (.cells #[.int .u8 c] 5)) := by
  subst hg
  exact app_one hgd s x ho B v xs c hown hs hx hlen hB h
/-- An append of one byte at a step of a region that draws. -/
theorem step_app {W : World} {ops : Array Oper} {o : Oper} {a : Act} {K : Act → World → Prop} {Q : Exit → Act → World → Prop} {E : Prop} (hgd : o.guard = none) (s x : Operand)
    (ho : o.op = .call { callee := .builtin .append, args := #[s, x], argTypes := #[72, 72] })
    (B : Nat) (v : Value) (xs : List Int) (c : Int) (hown : ownB W B v xs) (hs : a.eval s = v) (g : Nat) (hg : W.heap[g]? = some (.cells #[.int .u8 c] 5 (0, 0))) (hx : a.eval x = .slice (some ⟨g, 0, none⟩) 1 1)
    (hlen : xs.length + 1 ≤ 140737488355328) (hB : B ≤ W.heap.size)
    (h : ∀ v' w', ownB w' B v' (xs ++ [c]) → W.grownBy w' v.ownBlock → (v'.ownBlock = v.ownBlock ∨ ∀ k, v'.ownBlock = some k → W.heap.size ≤ k) → K (a.put o.dst v') w') :
    if Region.wanted o (yielded ops a.tmps) = true then Oper.wp Tryz.prog o a W K Q else E := by
  obtain ⟨i0, hi, hz0, hz1, hz2⟩ := info_parts infoB
  refine step_append_lies _ hgd s x 72 ho B 5 i0 (.int .u8 0) 1 1 Tryz.underlying72 hi hz0 hz1 hz2 rfl (by decide) v xs.length _ hs hown
    ⟨g, 0, none⟩ 1 1 [.int .u8 c] hx rfl (World.news_of_block (cs := #[.int .u8 c]) hg) (by intro u hu; simp at hu; subst hu; rfl) (by decide) (by unfold maxLen; omega) (by omega) hB W.heap.size rfl ?_
  intro g' cap w' hown' hgrow hlies _
  refine h _ w' ?_ hgrow (by rcases hlies with e | e; exact .inl e.symm; exact .inr fun k hk => by simp [Value.ownBlock] at hk; omega)
  have : (xs ++ [c]).length = xs.length + 1 := by simp
  unfold ownB; rw [this, List.map_append]; exact hown'
theorem keepA {W w1 : World} {o : Obj} {row : Option Nat} {n j : Nat} {x : Value} (hgrow : (W.alloc o).drew.grownBy w1 row) (hc : W.cell? ⟨n, j, none⟩ = some x) (hne : some n ≠ row) (hn : n < W.heap.size) : w1.cell? ⟨n, j, none⟩ = some x := by
  have hsz := lt_alloc W o
  rw [hgrow.cell_far ⟨n, j, none⟩ (show n < (W.alloc o).heap.size by omega) hne]
  show (W.alloc o).cell? ⟨n, j, none⟩ = some x
  rw [World.cell?_of_block (w := W) (Below.heap_alloc W o n hn)]
  exact hc
theorem keepG {W w1 w2 : World} {o : Obj} {b v' b2 : Value} {n j : Nat} {x : Value} (hgrow : (W.alloc o).drew.grownBy w1 b.ownBlock) (hc : W.cell? ⟨n, j, none⟩ = some x) (hne : some n ≠ b.ownBlock) (hn : n < W.heap.size)
    (hgrA : v'.ownBlock = b.ownBlock ∨ ∀ k, v'.ownBlock = some k → (W.alloc o).drew.heap.size ≤ k) (hg : Gr v' w1 b2 w2) : w2.cell? ⟨n, j, none⟩ = some x := by
  have hsz := lt_alloc W o
  have h1 := hgrow.size
  have h2 : (W.alloc o).drew.heap.size = (W.alloc o).heap.size := rfl
  have hv : some n ≠ v'.ownBlock := by
    rcases hgrA with e | e
    · rw [e]; exact hne
    · intro e2; have := e n e2.symm; omega
  rw [World.cell?_of_block (w := w1) (hg.far n (by omega) hv)]
  exact keepA hgrow hc hne hn
theorem alloc_le {B : Nat} {W : World} {o : Obj} (h : B ≤ W.heap.size) : B ≤ (W.alloc o).drew.heap.size := Nat.le_trans h (Nat.le_of_lt (lt_alloc W o))
theorem grown_le {B : Nat} {W w1 : World} {o : Obj} {row : Option Nat} (hg : (W.alloc o).drew.grownBy w1 row) (h : B ≤ W.heap.size) : B ≤ w1.heap.size := Nat.le_trans (alloc_le h) hg.size
theorem below_grown {B : Nat} {W w1 : World} {o : Obj} {row : Option Nat} (hl : ∀ k, row = some k → B ≤ k) (h : B ≤ W.heap.size) (hg : (W.alloc o).drew.grownBy w1 row) : Below B W w1 :=
  ((Below.refl B W).alloc h o).drew.grown hg (alloc_le h) hl
theorem gr_grown {b v' : Value} {W w1 : World} {o : Obj} (hg : (W.alloc o).drew.grownBy w1 b.ownBlock) (hA : v'.ownBlock = b.ownBlock ∨ ∀ k, v'.ownBlock = some k → (W.alloc o).drew.heap.size ≤ k) : Gr b W v' w1 := by
  have hsz := lt_alloc W o
  have h1 := hg.size
  have h2 : (W.alloc o).drew.heap.size = (W.alloc o).heap.size := rfl
  refine ⟨fun k hk hn => ?_, ?_, by omega⟩
  · rw [hg.block k (by omega) hn]; exact Below.heap_alloc W o k hk
  · rcases hA with e | e
    · exact .inl e
    · exact .inr fun k hk => by have := e k hk; omega
theorem len1 {xs : List Int} {c : Int} (h : xs.length ≤ 140737488351232) : (xs ++ [c]).length ≤ 140737488353280 := by simp; omega
def valC (v : Int × Int × ByteArray) : Obj := .cells #[.int .i64 v.1, .int .i64 v.2.1, .string v.2.2] 59
set_option maxRecDepth 100000 in
theorem key0 (b : Value) (xs : List Int) (v : Int × Int × ByteArray) (B : Nat) (w : World) (hB : B ≤ w.heap.size) (hown : ownB w B b xs) (hx : xs.length ≤ 140737488351232) :
    Calls Tryz.prog 120 #[b, .agg #[.int .i64 v.1, .int .i64 v.2.1, .string v.2.2]] w fun e w' => ∃ b', e = .returned b' ∧ ownB w' B b' (xs ++ [16]) ∧ Below B w w' ∧ Gr b w b' w' := by
  obtain ⟨a, i, t⟩ := v
  have HO : Hid (ownB w B b xs) := hown
  have HB : Hid (Below B w (w.alloc (valC (a, i, t)))) := (Below.refl _ _).alloc hB _
  simp only
  clear hown
  go_enter Tryz.func120, Tryz.ntmps120
  go_wp2_with (at_builtin; refine app_oneL (by rfl) _ _ (by rfl) B _ xs _ (HO.out.alloc _) (by rfl) (w.heap.size + 1) (by simp) (by rfl) (by omega) (by simp; omega) ?_; intro v' w1 hown1 hbel1 hgr1; have HO1 : Hid _ := hown1; have HB1 : Hid _ := hbel1; have HG1 : Hid (Gr b w v' w1) := (Gr.alloc b w _).trans hgr1; clear hown1 hbel1 hgr1)
  go_ret
  exact ⟨_, rfl, HO1.out, HB.out.trans HB1.out, HG1.out⟩
set_option maxRecDepth 100000 in
theorem key1 (b : Value) (xs : List Int) (v : Int × Int × ByteArray) (B : Nat) (w : World) (hB : B ≤ w.heap.size) (hown : ownB w B b xs) (hx : xs.length ≤ 140737488351232) (h0 : 0 ≤ v.2.1) (h1 : v.2.1 ≤ 1) :
    Calls Tryz.prog 125 #[b, .agg #[.int .i64 v.1, .int .i64 v.2.1, .string v.2.2]] w fun e w' => ∃ b', e = .returned b' ∧ ownB w' B b' (xs ++ [32 + v.2.1]) ∧ Below B w w' ∧ Gr b w b' w' := by
  obtain ⟨a, i, t⟩ := v
  have HO : Hid (ownB w B b xs) := hown
  have HB : Hid (Below B w (w.alloc (valC (a, i, t)))) := (Below.refl _ _).alloc hB _
  simp only at h0 h1 ⊢
  clear hown
  go_enter Tryz.func125, Tryz.ntmps125
  go_wp2_with (at_builtin; refine app_oneL (by rfl) _ _ (by rfl) B _ xs _ (HO.out.alloc _) (by rfl) (w.heap.size + 1) (by simp) (by rfl) (by omega) (by simp; omega) ?_; intro v' w1 hown1 hbel1 hgr1; have HO1 : Hid _ := hown1; have HB1 : Hid _ := hbel1; have HG1 : Hid (Gr b w v' w1) := (Gr.alloc b w _).trans hgr1; clear hown1 hbel1 hgr1)
  go_ret
  refine ⟨_, rfl, ?_, HB.out.trans HB1.out, HG1.out⟩
  exact HO1.out
theorem u64_wrap_lo (i : Int) : 0 ≤ IntKind.u64.wrap i := by show 0 ≤ i % 18446744073709551616; omega
theorem u64_wrap_hi (i : Int) : IntKind.u64.wrap i ≤ 18446744073709551615 := by show i % 18446744073709551616 ≤ _; omega
theorem u64_not (i : Int) (u : Nat) (h : (u : Int) = -1 - i) (hu : u < 9223372036854775808) : bits .xor .u64 IntKind.u64.max (IntKind.u64.wrap i) = (u : Int) := by
  have e1 : IntKind.u64.wrap i = 18446744073709551615 - (u : Int) := by show i % 18446744073709551616 = _; omega
  rw [e1]
  show ((BitVec.ofInt 64 18446744073709551615 ^^^ BitVec.ofInt 64 (18446744073709551615 - (u : Int))).toNat : Int) % 18446744073709551616 = u
  have e2 : BitVec.ofInt 64 18446744073709551615 = BitVec.allOnes 64 := by decide
  have e3 : BitVec.ofInt 64 (18446744073709551615 - (u : Int)) = ~~~ (BitVec.ofNat 64 u) := by
    apply BitVec.eq_of_toNat_eq
    rw [BitVec.toNat_not, BitVec.toNat_ofNat, BitVec.toNat_ofInt]
    omega
  rw [e2, e3]
  have e4 : BitVec.allOnes 64 ^^^ ~~~ (BitVec.ofNat 64 u) = BitVec.ofNat 64 u := by
    rw [BitVec.allOnes_xor, BitVec.not_not]
  rw [e4, BitVec.toNat_ofNat]
  omega
/-- The bytes of a number in a key. -/
def keyI (i : Int) : List Int := if 0 ≤ i then (56 + (szB i.toNat : Int)) :: hiB (szB i.toNat) (IntKind.u64.wrap i) else (55 - (szB (-1 - i).toNat : Int)) :: hiB (szB (-1 - i).toNat) (IntKind.u64.wrap i)
theorem keyI_pos (xs : List Int) (u : Nat) : xs ++ [IntKind.u8.wrap (56 + IntKind.u8.wrap (szB u))] ++ hiB (szB u) (IntKind.u64.wrap u) = xs ++ keyI u := by
  have hz := szB_le u
  have hw : IntKind.u8.wrap (56 + IntKind.u8.wrap (szB u)) = 56 + (szB u : Int) := by show (56 + (szB u : Int) % 256) % 256 = _; omega
  unfold keyI
  rw [if_pos (by omega), hw, Int.toNat_natCast, List.append_assoc, List.singleton_append]
theorem keyI_neg (xs : List Int) (i : Int) (u : Nat) (hi : i < 0) (hu : (u : Int) = -1 - i) : xs ++ [IntKind.u8.wrap (55 - IntKind.u8.wrap (szB u))] ++ hiB (szB u) (IntKind.u64.wrap i) = xs ++ keyI i := by
  have hz := szB_le u
  have hw : IntKind.u8.wrap (55 - IntKind.u8.wrap (szB u)) = 55 - (szB u : Int) := by show (55 - (szB u : Int) % 256) % 256 = _; omega
  unfold keyI
  rw [if_neg (by omega), hw, ← hu, Int.toNat_natCast, List.append_assoc, List.singleton_append]
attribute [local go_sem ↓] Go.wp_at_zero Go.wp_at_succ
set_option maxRecDepth 100000 in
set_option maxHeartbeats 1600000 in
theorem key2 (b : Value) (xs : List Int) (v : Int × Int × ByteArray) (B : Nat) (w : World) (hB : B ≤ w.heap.size) (hown : ownB w B b xs) (hx : xs.length ≤ 140737488351232) (h0 : -9223372036854775808 ≤ v.2.1) (h1 : v.2.1 ≤ 9223372036854775807) :
    Calls Tryz.prog 130 #[b, .agg #[.int .i64 v.1, .int .i64 v.2.1, .string v.2.2]] w fun e w' => ∃ b', e = .returned b' ∧ ownB w' B b' (xs ++ keyI v.2.1) ∧ Below B w w' ∧ Gr b w b' w' := by
  obtain ⟨a, i, t⟩ := v
  have HO : Hid (ownB w B b xs) := hown
  have hne : (some w.heap.size : Option Nat) ≠ b.ownBlock := fun h => by have := World.ownsRow.lt hown _ h.symm; omega
  have HL : Hid (∀ k, b.ownBlock = some k → B ≤ k) := fun k hk => (World.ownsRow.lt hown k hk).1
  simp only at h0 h1 ⊢
  clear hown
  by_cases hi : 0 ≤ i
  · obtain ⟨u, rfl⟩ : ∃ u : Nat, i = u := ⟨i.toNat, by omega⟩
    have hz : szB u ≤ 8 := szB_le u
    go_enter Tryz.func130, Tryz.ntmps130
    go_wp2_with (go_at_call 148; refine (bytes_any u _ (by omega)).mono ?_; rintro e w1 ⟨rfl, rfl⟩)
    have c1 : (w.alloc (.cells #[.int .i64 a, .int .i64 u, .string t] 59)).cell? ⟨w.heap.size, 1, none⟩ = some (.int .i64 u) := by simp [go_sem]
    have q0 := World.new_ne _ _ c1
    have hsz := lt_alloc w (.cells #[.int .i64 a, .int .i64 u, .string t] 59)
    have HO2 : Hid (ownB (w.alloc (.cells #[.int .i64 a, .int .i64 u, .string t] 59)) B b xs) := HO.out.alloc _
    have HGW : Hid (Gr b w b (w.alloc (.cells #[.int .i64 a, .int .i64 u, .string t] 59))) := Gr.alloc _ _ _
    have HBW : Hid (Below B w (w.alloc (.cells #[.int .i64 a, .int .i64 u, .string t] 59))) := (Below.refl _ _).alloc hB _
    generalize w.alloc (.cells #[.int .i64 a, .int .i64 u, .string t] 59) = W at *
    generalize hn : w.heap.size = n at *
    have hBW : B ≤ W.heap.size := by omega
    have hc := c1
    have hneN := hne
    have hnN := hsz
    go_region_held3 (fun W' => W'.cell? ⟨n, 1, none⟩ = some (.int .i64 u)) (first | go_keep | exact keepA hgrow hc hneN hnN | exact keepG hgrow hc hneN hnN hgrA hgr2) (first | (go_at_call 149; refine (layHF _ _ _ (szB u) B _ hz (u64_wrap_lo _) (u64_wrap_hi _) (grown_le hgrow hBW) hown1 (len1 hx)).mono ?_; rintro e w2 ⟨b2, rfl, hown2, hbel2, hgr2⟩) | ((refine step_app (by rfl) _ _ (by rfl) B b xs _ ((HO2.out.alloc _).drew) (by rfl) _ (heap_alloc_new _ _) (by rfl) (by omega) (alloc_le hBW) ?_; intro v' w1 hown1 hgrow hgrA)))
    have HO3 : Hid _ := hown2
    have HB3 : Hid (Below B W _) := (below_grown HL.out hBW hgrow).trans hbel2
    have HG3 : Hid (Gr b W _ _) := (gr_grown hgrow hgrA).trans hgr2
    clear hown1 hown2 hbel2 hgr2 hgrA hgrow
    go_wp2
    go_ret
    refine ⟨_, rfl, ?_, HBW.out.trans HB3.out, HGW.out.trans HG3.out⟩
    rw [← keyI_pos]
    exact HO3.out
  · obtain ⟨u, hu⟩ : ∃ u : Nat, (u : Int) = -1 - i := ⟨(-1 - i).toNat, by omega⟩
    have hz : szB u ≤ 8 := szB_le u
    go_enter Tryz.func130, Tryz.ntmps130
    go_wp2_with (go_at_call 148; rw [u64_not i u hu (by omega)]; refine (bytes_any u _ (by omega)).mono ?_; rintro e w1 ⟨rfl, rfl⟩)
    have c1 : (w.alloc (.cells #[.int .i64 a, .int .i64 i, .string t] 59)).cell? ⟨w.heap.size, 1, none⟩ = some (.int .i64 i) := by simp [go_sem]
    have q0 := World.new_ne _ _ c1
    have hsz := lt_alloc w (.cells #[.int .i64 a, .int .i64 i, .string t] 59)
    have HO2 : Hid (ownB (w.alloc (.cells #[.int .i64 a, .int .i64 i, .string t] 59)) B b xs) := HO.out.alloc _
    have HGW : Hid (Gr b w b (w.alloc (.cells #[.int .i64 a, .int .i64 i, .string t] 59))) := Gr.alloc _ _ _
    have HBW : Hid (Below B w (w.alloc (.cells #[.int .i64 a, .int .i64 i, .string t] 59))) := (Below.refl _ _).alloc hB _
    generalize w.alloc (.cells #[.int .i64 a, .int .i64 i, .string t] 59) = W at *
    generalize hn : w.heap.size = n at *
    have hBW : B ≤ W.heap.size := by omega
    have hc := c1
    have hneN := hne
    have hnN := hsz
    go_region_held3 (fun W' => W'.cell? ⟨n, 1, none⟩ = some (.int .i64 i)) (first | go_keep | exact keepA hgrow hc hneN hnN | exact keepG hgrow hc hneN hnN hgrA hgr2) (first | (go_at_call 149; refine (layHF _ _ _ (szB u) B _ hz (u64_wrap_lo _) (u64_wrap_hi _) (grown_le hgrow hBW) hown1 (len1 hx)).mono ?_; rintro e w2 ⟨b2, rfl, hown2, hbel2, hgr2⟩) | ((refine step_app (by rfl) _ _ (by rfl) B b xs _ ((HO2.out.alloc _).drew) (by rfl) _ (heap_alloc_new _ _) (by rfl) (by omega) (alloc_le hBW) ?_; intro v' w1 hown1 hgrow hgrA)))
    have HO3 : Hid _ := hown2
    have HB3 : Hid (Below B W _) := (below_grown HL.out hBW hgrow).trans hbel2
    have HG3 : Hid (Gr b W _ _) := (gr_grown hgrow hgrA).trans hgr2
    clear hown1 hown2 hbel2 hgr2 hgrA hgrow
    go_wp2
    go_ret
    refine ⟨_, rfl, ?_, HBW.out.trans HB3.out, HGW.out.trans HG3.out⟩
    rw [← keyI_neg xs i u (by omega) hu]
    exact HO3.out
end Go.Proofs.YtjcffcpmegpjeaaGreatDoor

namespace Go.Proofs.YtjcffcpmegpjeaaGreatDoor
open Go.ChangeShapes Go.WideShapes Go.ChangeAt Go.RowKit
set_option linter.unusedVariables false
set_option maxRecDepth 100000

theorem Gr.cell {b c : Value} {w w' : World} (h : Gr b w c w') {n j : Nat} {x : Value} (hc : w.cell? ⟨n, j, none⟩ = some x) (hn : n < w.heap.size) (hne : some n ≠ b.ownBlock) : w'.cell? ⟨n, j, none⟩ = some x := by
  rw [World.cell?_of_block (w := w) (h.far n hn hne)]; exact hc
theorem Gr.ne {b c : Value} {w w' : World} (h : Gr b w c w') {n : Nat} (hn : n < w.heap.size) (hne : some n ≠ b.ownBlock) : some n ≠ c.ownBlock := by
  rcases h.own with e | e
  · rw [e]; exact hne
  · intro e2; have := e n e2.symm; omega
theorem app_two {wr : World} {ops : Array Oper} {rest : List Oper} {o : Oper} {a : Act} {Q : Exit → Act → World → Prop} (hgd : o.guard = none) (s x : Operand)
    (ho : o.op = .call { callee := .builtin .append, args := #[s, x], argTypes := #[72, 72] })
    (B : Nat) (v : Value) (xs : List Int) (c d : Int) (hown : ownB wr B v xs) (hs : a.eval s = v) (g : Nat) (hg : g = wr.heap.size) (hx : a.eval x = .slice (some ⟨g, 0, none⟩) 2 2)
    (hlen : xs.length + 2 ≤ 140737488355328) (hB : B ≤ wr.heap.size)
    (h : ∀ v' w', ownB w' B v' (xs ++ [c, d]) → Below B wr w' → Gr v wr v' w' → wpList Tryz.prog ops Q rest (a.put o.dst v') w') :
    wpList Tryz.prog ops Q (o :: rest) a (wr.alloc (.cells #[.int .u8 c, .int .u8 d] 5)) := by
  subst hg
  obtain ⟨i0, hi, hz0, hz1, hz2⟩ := info_parts infoB
  refine wpList_append_lies _ hgd s x 72 ho B 5 i0 (.int .u8 0) 1 1 Tryz.underlying72 hi hz0 hz1 hz2 rfl (by decide) v xs.length _ hs (World.ownsRow.alloc hown _)
    ⟨wr.heap.size, 0, none⟩ 2 2 [.int .u8 c, .int .u8 d] hx rfl (World.news_of_block (cs := #[.int .u8 c, .int .u8 d]) (heap_alloc_new wr _)) (by intro u hu; simp at hu; rcases hu with rfl | rfl <;> rfl) (by decide) (by unfold maxLen; omega) (by omega) (by simp; omega) (wr.heap.size + 1) (by simp) ?_
  intro g' cap w' hown' hgrow hlies _
  have hsz := lt_alloc wr (.cells #[.int .u8 c, .int .u8 d] 5)
  refine h _ w' ?_ ?_ ?_
  · have : (xs ++ [c, d]).length = xs.length + 2 := by simp
    unfold ownB; rw [this, List.map_append]; exact hown'
  · exact ((Below.refl _ _).alloc hB _).grown hgrow (by omega) (fun k hk => (World.ownsRow.lt hown k hk).1)
  · refine ⟨fun k hk hn => ?_, ?_, ?_⟩
    · rw [hgrow.block k (by omega) hn]; exact Below.heap_alloc wr _ k hk
    · rcases hlies with e | e
      · exact .inl e.symm
      · exact .inr fun k hk => by simp [Value.ownBlock] at hk; omega
    · have := hgrow.size; omega
/-- A text's bytes in a key. -/
def escL : List UInt8 → List Int
  | [] => []
  | x :: r => if x = 0 then 0 :: 255 :: escL r else (x.toNat : Int) :: escL r
theorem escL_len : ∀ l, (escL l).length ≤ 2 * l.length
  | [] => by simp [escL]
  | x :: r => by have := escL_len r; unfold escL; split <;> simp <;> omega
theorem escL_append : ∀ l m, escL (l ++ m) = escL l ++ escL m
  | [], m => rfl
  | x :: r, m => by
    rw [List.cons_append, escL, escL, escL_append r m]
    split <;> simp
theorem esc_take (t : ByteArray) (k : Nat) (h : k < t.size) : escL (t.data.toList.take (k + 1)) = escL (t.data.toList.take k) ++ escL [t[k]] := by
  have : t.data.toList.take (k + 1) = t.data.toList.take k ++ [t[k]] := by
    have hl : k < t.data.toList.length := by simpa using h
    rw [List.take_succ_eq_append_getElem hl]
    rfl
  rw [this, escL_append]
theorem esc_take_len (t : ByteArray) (k : Nat) (hs : t.size ≤ 4096) : (escL (t.data.toList.take k)).length ≤ 8192 := by
  have h1 := escL_len (t.data.toList.take k)
  have h2 : (t.data.toList.take k).length ≤ t.data.toList.length := by rw [List.length_take]; omega
  have h3 : t.data.toList.length = t.size := by rw [Array.length_toList]; rfl
  omega
set_option maxRecDepth 100000 in
set_option maxHeartbeats 1600000 in
theorem key3 (b : Value) (xs : List Int) (v : Int × Int × ByteArray) (B : Nat) (w : World) (hB : B ≤ w.heap.size) (hown : ownB w B b xs) (hx : xs.length ≤ 140737488340000) (hs : v.2.2.size ≤ 4096) :
    Calls Tryz.prog 135 #[b, .agg #[.int .i64 v.1, .int .i64 v.2.1, .string v.2.2]] w fun e w' => ∃ b', e = .returned b' ∧ ownB w' B b' (xs ++ (80 :: escL v.2.2.data.toList ++ [0, 1])) ∧ Below B w w' ∧ Gr b w b' w' := by
  obtain ⟨a, i, t⟩ := v
  have HO : Hid (ownB w B b xs) := hown
  have hne : (some w.heap.size : Option Nat) ≠ b.ownBlock := fun h => by have := World.ownsRow.lt hown _ h.symm; omega
  simp only at hs ⊢
  clear hown
  have HB0 : Hid (Below B w (w.alloc (.cells #[.int .i64 a, .int .i64 i, .string t] 59))) := (Below.refl _ _).alloc hB _
  have HG0 : Hid (Gr b w b (w.alloc (.cells #[.int .i64 a, .int .i64 i, .string t] 59))) := Gr.alloc _ _ _
  have HC0 : Hid ((w.alloc (.cells #[.int .i64 a, .int .i64 i, .string t] 59)).cell? ⟨w.heap.size, 2, none⟩ = some (.string t)) := by show _ = _; simp [go_sem]
  have HS0 : Hid (w.heap.size < (w.alloc (.cells #[.int .i64 a, .int .i64 i, .string t] 59)).heap.size) := lt_alloc _ _
  go_enter Tryz.func135, Tryz.ntmps135
  go_wp2_with (at_builtin; refine app_oneL (by rfl) _ _ (by rfl) B _ xs _ (HO.out.alloc _) (by rfl) (w.heap.size + 1) (by simp) (by rfl) (by omega) (by simp; omega) ?_; intro v' w1 hown1 hbel1 hgr1; have hc1 := hgr1.cell HC0.out HS0.out hne; have HO1 : Hid (ownB w1 B v' (xs ++ [80])) := hown1; have HB1 : Hid _ := hbel1; have HG1 : Hid (Gr b (w.alloc (.cells #[.int .i64 a, .int .i64 i, .string t] 59)) v' w1) := hgr1; clear hown1 hbel1 hgr1)
  generalize hW : w.alloc (.cells #[.int .i64 a, .int .i64 i, .string t] 59) = W at *
  generalize w.heap.size = n at *
  go_loopw [0, 12] (fun c i wr => ∃ k : Nat, k ≤ t.size ∧ i = .int .i64 k ∧ ownB wr B c (xs ++ [80] ++ escL (t.data.toList.take k)) ∧ Below B W wr ∧ Gr b W c wr) (fun _ i _ => t.size - (intOf i).toNat)
  case atStart => exact ⟨0, by omega, rfl, by simpa [escL] using HO1.out, HB1.out, HG1.out⟩
  case round =>
    obtain ⟨k, hk, rfl, hown2, hbel2, hgr2⟩ := hrel
    have hcr := hgr2.cell HC0.out HS0.out hne
    have HO2 : Hid (ownB wr B _ (xs ++ [80] ++ escL (t.data.toList.take k))) := hown2
    have HB2 : Hid (Below B W wr) := hbel2
    have HG2 : Hid (Gr b W _ wr) := hgr2
    have hBr : B ≤ wr.heap.size := by have := HS0.out; have := hbel2.size; omega
    have hlen : (xs ++ [80] ++ escL (t.data.toList.take k)).length ≤ 140737488354000 := by have := esc_take_len t k hs; rw [List.length_append, List.length_append, List.length_singleton]; omega
    clear hown2 hbel2 hgr2 hc1 HO1 HB1 HG1
    by_cases hlt : k < t.size
    · have hk0 : (0 : Int) ≤ (k : Int) := by omega
      have hk1 : (k : Int) < (t.size : Int) := by omega
      have HT := esc_take t k hlt
      by_cases hz : t[k] = 0
      · have hz2 : (t[k].toNat : Int) = 0 := by rw [hz]; rfl
        have HT2 : Hid (escL (t.data.toList.take (k + 1)) = escL (t.data.toList.take k) ++ [0] ++ [255]) := by show _ = _; rw [HT, hz]; simp [escL]
        clear HT
        go_wp2_with (at_builtin; first | (refine app_oneL (by rfl) _ _ (by rfl) B _ _ _ HO2.out (by rfl) _ (by rfl) (by rfl) (by omega) hBr ?_; intro v3 w3 hown3 hbel3 hgr3; have hc3 := (HG2.out.trans hgr3).cell HC0.out HS0.out hne; have HO3 : Hid (ownB w3 B v3 (_ ++ _)) := hown3; have HB3 : Hid (Below B wr w3) := hbel3; have HG3 : Hid (Gr _ wr v3 w3) := hgr3; have hB3 : B ≤ w3.heap.size := Nat.le_trans hBr hbel3.size; clear hown3 hbel3 hgr3) | (refine app_oneL (by rfl) _ _ (by rfl) B _ _ _ HO3.out (by rfl) _ (by rfl) (by rfl) (by rw [List.length_append, List.length_singleton]; omega) hB3 ?_; intro v4 w4 hown4 hbel4 hgr4; have hc4 := (HG2.out.trans (HG3.out.trans hgr4)).cell HC0.out HS0.out hne; have HO4 : Hid (ownB w4 B v4 (_ ++ _)) := hown4; have HB4 : Hid (Below B w3 w4) := hbel4; have HG4 : Hid (Gr v3 w3 v4 w4) := hgr4; clear hown4 hbel4 hgr4))
        go_roundw
        case rel =>
          refine ⟨k + 1, by omega, by go_num, ?_, HB2.out.trans (HB3.out.trans HB4.out), HG2.out.trans (HG3.out.trans HG4.out)⟩
          rw [HT2.out, ← List.append_assoc, ← List.append_assoc]
          exact HO4.out
        case measure => simp [intOf]; omega
      · have hz2 : ¬ (t[k].toNat : Int) = 0 := fun h => hz (UInt8.toNat_inj.1 (by have e : UInt8.toNat 0 = 0 := rfl; omega))
        have HT2 : Hid (escL (t.data.toList.take (k + 1)) = escL (t.data.toList.take k) ++ [(t[k].toNat : Int)]) := by show _ = _; rw [HT]; simp [escL, hz]
        clear HT
        go_wp2_with (at_builtin; first | (refine app_oneL (by rfl) _ _ (by rfl) B _ _ _ HO2.out (by rfl) _ (by rfl) (by rfl) (by omega) hBr ?_; intro v3 w3 hown3 hbel3 hgr3; have hc3 := (HG2.out.trans hgr3).cell HC0.out HS0.out hne; have HO3 : Hid (ownB w3 B v3 (_ ++ _)) := hown3; have HB3 : Hid (Below B wr w3) := hbel3; have HG3 : Hid (Gr _ wr v3 w3) := hgr3; have hB3 : B ≤ w3.heap.size := Nat.le_trans hBr hbel3.size; clear hown3 hbel3 hgr3))
        go_roundw
        case rel =>
          refine ⟨k + 1, by omega, by go_num, ?_, HB2.out.trans HB3.out, HG2.out.trans HG3.out⟩
          rw [HT2.out, ← List.append_assoc]
          exact HO3.out
        case measure => simp [intOf]; omega
    · have hk1 : ¬ (k : Int) < (t.size : Int) := by omega
      have hke : t.data.toList.take k = t.data.toList := List.take_of_length_le (by rw [Array.length_toList]; show t.size ≤ k; omega)
      go_wp2_with (at_builtin; refine app_two (by rfl) _ _ (by rfl) B _ _ _ _ HO2.out (by rfl) _ (by rfl) (by rfl) (by omega) hBr ?_; intro v3 w3 hown3 hbel3 hgr3; have HO3 : Hid (ownB w3 B v3 (_ ++ _)) := hown3; have HB3 : Hid (Below B wr w3) := hbel3; have HG3 : Hid (Gr _ wr v3 w3) := hgr3; clear hown3 hbel3 hgr3)
      go_ret
      refine ⟨_, rfl, ?_, HB0.out.trans (HB2.out.trans HB3.out), HG0.out.trans (HG2.out.trans HG3.out)⟩
      rw [hke] at HO3
      have h9 := HO3.out
      rw [List.append_assoc, List.append_assoc] at h9
      exact h9
end Go.Proofs.YtjcffcpmegpjeaaGreatDoor

namespace Go.Proofs.YtjcffcpmegpjeaaGreatDoor
open Go.ChangeShapes Go.WideShapes Go.ChangeAt Go.RowKit
set_option linter.unusedVariables false
set_option maxRecDepth 100000

def faultV (v : Int × Int × ByteArray) : Int := if v.1 < 0 ∨ 3 < v.1 then 19 else if v.1 = 0 then fault0 v else if v.1 = 1 then fault1 v else if v.1 = 2 then fault2 v else fault3 v
def faultL : List (Int × Int × ByteArray) → Int
  | [] => 0
  | v :: r => if faultV v ≠ 0 then faultV v else faultL r
theorem layE_0 (w : World) : Calls Tryz.prog 82 #[.int .i64 0] w fun e w' => e = .returned (.agg #[.func (.func 119) #[] #[], .func (.func 120) #[] #[], .func (.func 121) #[] #[], .func (.func 122) #[] #[], .func (.func 123) #[] #[]]) ∧ Below w.heap.size w w' := layoutOf_0 w
theorem layE_1 (w : World) : Calls Tryz.prog 82 #[.int .i64 1] w fun e w' => e = .returned (.agg #[.func (.func 124) #[] #[], .func (.func 125) #[] #[], .func (.func 126) #[] #[], .func (.func 127) #[] #[], .func (.func 128) #[] #[]]) ∧ Below w.heap.size w w' := layoutOf_1 w
theorem layE_2 (w : World) : Calls Tryz.prog 82 #[.int .i64 2] w fun e w' => e = .returned (.agg #[.func (.func 129) #[] #[], .func (.func 130) #[] #[], .func (.func 131) #[] #[], .func (.func 132) #[] #[], .func (.func 133) #[] #[]]) ∧ Below w.heap.size w w' := layoutOf_2 w
theorem layE_3 (w : World) : Calls Tryz.prog 82 #[.int .i64 3] w fun e w' => e = .returned (.agg #[.func (.func 134) #[] #[], .func (.func 135) #[] #[], .func (.func 136) #[] #[], .func (.func 137) #[] #[], .func (.func 138) #[] #[]]) ∧ Below w.heap.size w w' := layoutOf_3 w
theorem faultL_step (vs : List (Int × Int × ByteArray)) (k : Nat) (h : k < vs.length) : faultL (vs.drop k) = if faultV vs[k] ≠ 0 then faultV vs[k] else faultL (vs.drop (k + 1)) := by
  rw [List.drop_eq_getElem_cons h, faultL]
theorem faultL_end (vs : List (Int × Int × ByteArray)) (k : Nat) (h : vs.length ≤ k) : faultL (vs.drop k) = 0 := by
  rw [List.drop_eq_nil_of_le h, faultL]
/-- What stands while a value's layout is asked for: its three cells, and all below B as it was. -/
def CkS (w : World) (B n : Nat) (kd i : Int) (t : ByteArray) (W : World) : Prop :=
  (Below B w W ∧ B ≤ W.heap.size ∧ n < W.heap.size) ∧ W.cell? ⟨n, 0, none⟩ = some (.int .i64 kd) ∧ W.cell? ⟨n, 1, none⟩ = some (.int .i64 i) ∧ W.cell? ⟨n, 2, none⟩ = some (.string t)
theorem CkS.later {w W W' : World} {B n : Nat} {kd i : Int} {t : ByteArray} (h : CkS w B n kd i t W) (hb : Below W.heap.size W W') : CkS w B n kd i t W' := by
  obtain ⟨⟨h1, h2, h3⟩, c0, c1, c2⟩ := h
  have hz := hb.size
  exact ⟨⟨h1.trans (hb.mono h2), by omega, by omega⟩, by rw [hb.cell (p := ⟨n, 0, none⟩) h3]; exact c0, by rw [hb.cell (p := ⟨n, 1, none⟩) h3]; exact c1, by rw [hb.cell (p := ⟨n, 2, none⟩) h3]; exact c2⟩
theorem CkS.drew {w W : World} {B n : Nat} {kd i : Int} {t : ByteArray} (h : CkS w B n kd i t W) : CkS w B n kd i t W.drew := h.later (Below.refl _ _).drew
theorem CkS.keep {w W : World} {B n : Nat} {kd i : Int} {t : ByteArray} (h : CkS w B n kd i t W) : CkS w B n kd i t W ∧ W.cell? ⟨n, 0, none⟩ = some (.int .i64 kd) ∧ W.cell? ⟨n, 1, none⟩ = some (.int .i64 i) ∧ W.cell? ⟨n, 2, none⟩ = some (.string t) := ⟨h, h.2⟩
theorem CkS.new {w wr : World} {B : Nat} (kd i : Int) (t : ByteArray) (hb : Below B w wr) (hB : B ≤ wr.heap.size) : CkS w B wr.heap.size kd i t (wr.alloc (.cells #[.int .i64 kd, .int .i64 i, .string t] 59)) := by
  have := lt_alloc wr (.cells #[.int .i64 kd, .int .i64 i, .string t] 59)
  exact ⟨⟨hb.alloc hB _, by omega, this⟩, by simp [go_sem], by simp [go_sem], by simp [go_sem]⟩
theorem CkS.call {w W : World} {B n : Nat} {kd i : Int} {t : ByteArray} {f : FuncId} {args : Array Value} {r : Ending} (h : CkS w B n kd i t W) (hc : Calls Tryz.prog f args W fun e w' => e = r ∧ Below W.heap.size W w') : Calls Tryz.prog f args W fun e w' => e = r ∧ CkS w B n kd i t w' :=
  hc.mono fun _ _ h2 => ⟨h2.1, h.later h2.2⟩
theorem fld0_0 (w : World) : Sem.run Tryz.prog (Instr.field 129 (.agg #[.func (.func 119) #[] #[], .func (.func 120) #[] #[], .func (.func 121) #[] #[], .func (.func 122) #[] #[], .func (.func 123) #[] #[]]) 0) w = .ok (.func (.func 119) #[] #[]) w := by kernel_rfl
theorem fld0_1 (w : World) : Sem.run Tryz.prog (Instr.field 129 (.agg #[.func (.func 119) #[] #[], .func (.func 120) #[] #[], .func (.func 121) #[] #[], .func (.func 122) #[] #[], .func (.func 123) #[] #[]]) 1) w = .ok (.func (.func 120) #[] #[]) w := by kernel_rfl
theorem fld0_3 (w : World) : Sem.run Tryz.prog (Instr.field 129 (.agg #[.func (.func 119) #[] #[], .func (.func 120) #[] #[], .func (.func 121) #[] #[], .func (.func 122) #[] #[], .func (.func 123) #[] #[]]) 3) w = .ok (.func (.func 122) #[] #[]) w := by kernel_rfl
theorem fld1_0 (w : World) : Sem.run Tryz.prog (Instr.field 129 (.agg #[.func (.func 124) #[] #[], .func (.func 125) #[] #[], .func (.func 126) #[] #[], .func (.func 127) #[] #[], .func (.func 128) #[] #[]]) 0) w = .ok (.func (.func 124) #[] #[]) w := by kernel_rfl
theorem fld1_1 (w : World) : Sem.run Tryz.prog (Instr.field 129 (.agg #[.func (.func 124) #[] #[], .func (.func 125) #[] #[], .func (.func 126) #[] #[], .func (.func 127) #[] #[], .func (.func 128) #[] #[]]) 1) w = .ok (.func (.func 125) #[] #[]) w := by kernel_rfl
theorem fld1_3 (w : World) : Sem.run Tryz.prog (Instr.field 129 (.agg #[.func (.func 124) #[] #[], .func (.func 125) #[] #[], .func (.func 126) #[] #[], .func (.func 127) #[] #[], .func (.func 128) #[] #[]]) 3) w = .ok (.func (.func 127) #[] #[]) w := by kernel_rfl
theorem fld2_0 (w : World) : Sem.run Tryz.prog (Instr.field 129 (.agg #[.func (.func 129) #[] #[], .func (.func 130) #[] #[], .func (.func 131) #[] #[], .func (.func 132) #[] #[], .func (.func 133) #[] #[]]) 0) w = .ok (.func (.func 129) #[] #[]) w := by kernel_rfl
theorem fld2_1 (w : World) : Sem.run Tryz.prog (Instr.field 129 (.agg #[.func (.func 129) #[] #[], .func (.func 130) #[] #[], .func (.func 131) #[] #[], .func (.func 132) #[] #[], .func (.func 133) #[] #[]]) 1) w = .ok (.func (.func 130) #[] #[]) w := by kernel_rfl
theorem fld2_3 (w : World) : Sem.run Tryz.prog (Instr.field 129 (.agg #[.func (.func 129) #[] #[], .func (.func 130) #[] #[], .func (.func 131) #[] #[], .func (.func 132) #[] #[], .func (.func 133) #[] #[]]) 3) w = .ok (.func (.func 132) #[] #[]) w := by kernel_rfl
theorem fld3_0 (w : World) : Sem.run Tryz.prog (Instr.field 129 (.agg #[.func (.func 134) #[] #[], .func (.func 135) #[] #[], .func (.func 136) #[] #[], .func (.func 137) #[] #[], .func (.func 138) #[] #[]]) 0) w = .ok (.func (.func 134) #[] #[]) w := by kernel_rfl
theorem fld3_1 (w : World) : Sem.run Tryz.prog (Instr.field 129 (.agg #[.func (.func 134) #[] #[], .func (.func 135) #[] #[], .func (.func 136) #[] #[], .func (.func 137) #[] #[], .func (.func 138) #[] #[]]) 1) w = .ok (.func (.func 135) #[] #[]) w := by kernel_rfl
theorem fld3_3 (w : World) : Sem.run Tryz.prog (Instr.field 129 (.agg #[.func (.func 134) #[] #[], .func (.func 135) #[] #[], .func (.func 136) #[] #[], .func (.func 137) #[] #[], .func (.func 138) #[] #[]]) 3) w = .ok (.func (.func 137) #[] #[]) w := by kernel_rfl
attribute [local go_sem ↓] Go.wp_at_zero Go.wp_at_succ
attribute [local go_sem] fld0_0 fld0_1 fld0_3 fld1_0 fld1_1 fld1_3 fld2_0 fld2_1 fld2_3 fld3_0 fld3_1 fld3_3
set_option maxRecDepth 100000 in
set_option maxHeartbeats 3200000 in
theorem check_any (a : Value) (vs : List (Int × Int × ByteArray)) (B : Nat) (w : World) (hB : B ≤ w.heap.size) (ha : SeesV w B a vs) (hv : ∀ v ∈ vs, v.2.2.size ≤ 9223372036854775807) :
    Calls Tryz.prog 79 #[a] w fun e w' => e = .returned (.int .i64 (if 16 < vs.length then 18 else faultL vs)) ∧ Below B w w' := by
  obtain ⟨ao, cap, rfl, hl1, hc1, hs1⟩ := ha
  have HA : Hid _ := hs1
  clear hs1
  by_cases hm : 16 < vs.length
  · go_enter Tryz.func79, Tryz.ntmps79
    go_wp2
    go_ret
    exact ⟨rfl, Below.refl _ _⟩
  rw [if_neg hm]
  go_enter Tryz.func79, Tryz.ntmps79
  go_wp2
  go_loopw [11] (fun i wr => ∃ k : Nat, k ≤ vs.length ∧ i = .int .i64 k ∧ faultL vs = faultL (vs.drop k) ∧ Below B w wr) (fun i _ => vs.length - (intOf i).toNat)
  case atStart => exact ⟨0, by omega, rfl, rfl, Below.refl _ _⟩
  case round =>
    obtain ⟨k, hk, rfl, hfl, hbel⟩ := hrel
    have HF : Hid (faultL vs = faultL (vs.drop k)) := hfl
    have HBl : Hid (Below B w wr) := hbel
    have hBr : B ≤ wr.heap.size := by have := hbel.size; omega
    clear hfl hbel
    by_cases h1 : k < vs.length
    · obtain ⟨b1, o1, e1, hb1, x0, x1, x2⟩ := HA.out k h1
      have y0 := (HBl.out.cell (p := ⟨b1, o1 + k * 3, none⟩) hb1).trans x0
      have y1 := (HBl.out.cell (p := ⟨b1, o1 + k * 3 + 1, none⟩) hb1).trans x1
      have y2 := (HBl.out.cell (p := ⟨b1, o1 + k * 3 + 2, none⟩) hb1).trans x2
      clear x0 x1 x2
      subst e1
      have hS := faultL_step vs k h1
      have hvs := hv _ (List.getElem_mem h1)
      have hn1 : b1 < wr.heap.size := by omega
      generalize hvk : vs[k] = v at *
      obtain ⟨kd, i, t⟩ := v
      simp only at y0 y1 y2 hvs
      have HS : Hid (faultL (vs.drop k) = if faultV (kd, i, t) ≠ 0 then faultV (kd, i, t) else faultL (vs.drop (k + 1))) := hS
      clear hS hvk
      have HBa : Hid (Below B w (wr.alloc (.cells #[.int .i64 kd, .int .i64 i, .string t] 59))) := HBl.out.alloc hBr _
      by_cases q1 : kd < 0
      · have HV : Hid (faultV (kd, i, t) = 19) := by show _ = _; unfold faultV; rw [if_pos (.inl q1)]
        go_wp2
        go_ret
        exact ⟨by rw [HF.out, HS.out, HV.out]; rfl, HBa.out⟩
      by_cases q2 : 3 < kd
      · have HV : Hid (faultV (kd, i, t) = 19) := by show _ = _; unfold faultV; rw [if_pos (.inr q2)]
        go_wp2
        go_ret
        exact ⟨by rw [HF.out, HS.out, HV.out]; rfl, HBa.out⟩
      have hkd : kd = 0 ∨ kd = 1 ∨ kd = 2 ∨ kd = 3 := by omega
      clear q1 q2
      rcases hkd with rfl | rfl | rfl | rfl
      · have HV : Hid (faultV (0, i, t) = fault0 (0, i, t)) := by show _ = _; unfold faultV; rw [if_neg (by simp), if_pos rfl]
        go_wp2_with fail
        have hs0 := CkS.new 0 i t HBl.out hBr
        have c0 := hs0.2.1
        have c1 := hs0.2.2.1
        have c2 := hs0.2.2.2
        clear y0 y1 y2 hn1 HBl HBa hBr
        generalize wr.alloc (.cells #[.int .i64 0, .int .i64 i, .string t] 59) = W at *
        generalize wr.heap.size = n at *
        go_region_held3 (fun W' => CkS w B n 0 i t W' ∧ W'.cell? ⟨n, 0, none⟩ = some (.int .i64 0) ∧ W'.cell? ⟨n, 1, none⟩ = some (.int .i64 i) ∧ W'.cell? ⟨n, 2, none⟩ = some (.string t)) (first | assumption | exact CkS.keep (by assumption) | exact CkS.keep (CkS.drew (by assumption)) | exact CkS.keep (CkS.drew (And.left (by assumption)))) (first | (go_at_call 82; refine (CkS.call (by first | assumption | exact And.left (by assumption)) (layE_0 _)).mono ?_; rintro e w' ⟨rfl, hSx⟩) | (go_at_call 119; refine (CkS.call (by first | assumption | exact And.left (by assumption)) (check0 (0, i, t) _)).mono ?_; rintro e w' ⟨rfl, hSy⟩))
        have HB3 : Hid (Below B w _) := hSy.1.1
        clear hs0 c0 c1 c2 hSx hSy
        rw [← HV.out]
        generalize faultV (0, i, t) = c at *
        cases hc : (c != 0)
        · have hc0 : c = 0 := by simpa using hc
          have HZ : Hid (c = 0) := hc0
          clear hc0
          go_wp2
          go_roundw
          case rel => exact ⟨k + 1, by omega, by go_num, by rw [HF.out, HS.out, if_neg (by simp [HZ.out])], HB3.out⟩
          case measure => simp [intOf]; omega
        · have HZ : Hid (c ≠ 0) := by show _ ≠ _; simpa using hc
          go_wp2
          go_ret
          exact ⟨by rw [HF.out, HS.out, if_pos HZ.out]; rfl, HB3.out⟩
      · have HV : Hid (faultV (1, i, t) = fault1 (1, i, t)) := by show _ = _; unfold faultV; rw [if_neg (by simp), if_neg (by simp), if_pos rfl]
        go_wp2_with fail
        have hs0 := CkS.new 1 i t HBl.out hBr
        have c0 := hs0.2.1
        have c1 := hs0.2.2.1
        have c2 := hs0.2.2.2
        clear y0 y1 y2 hn1 HBl HBa hBr
        generalize wr.alloc (.cells #[.int .i64 1, .int .i64 i, .string t] 59) = W at *
        generalize wr.heap.size = n at *
        go_region_held3 (fun W' => CkS w B n 1 i t W' ∧ W'.cell? ⟨n, 0, none⟩ = some (.int .i64 1) ∧ W'.cell? ⟨n, 1, none⟩ = some (.int .i64 i) ∧ W'.cell? ⟨n, 2, none⟩ = some (.string t)) (first | assumption | exact CkS.keep (by assumption) | exact CkS.keep (CkS.drew (by assumption)) | exact CkS.keep (CkS.drew (And.left (by assumption)))) (first | (go_at_call 82; refine (CkS.call (by first | assumption | exact And.left (by assumption)) (layE_1 _)).mono ?_; rintro e w' ⟨rfl, hSx⟩) | (go_at_call 124; refine (CkS.call (by first | assumption | exact And.left (by assumption)) (check1 (1, i, t) _)).mono ?_; rintro e w' ⟨rfl, hSy⟩))
        have HB3 : Hid (Below B w _) := hSy.1.1
        clear hs0 c0 c1 c2 hSx hSy
        rw [← HV.out]
        generalize faultV (1, i, t) = c at *
        cases hc : (c != 0)
        · have hc0 : c = 0 := by simpa using hc
          have HZ : Hid (c = 0) := hc0
          clear hc0
          go_wp2
          go_roundw
          case rel => exact ⟨k + 1, by omega, by go_num, by rw [HF.out, HS.out, if_neg (by simp [HZ.out])], HB3.out⟩
          case measure => simp [intOf]; omega
        · have HZ : Hid (c ≠ 0) := by show _ ≠ _; simpa using hc
          go_wp2
          go_ret
          exact ⟨by rw [HF.out, HS.out, if_pos HZ.out]; rfl, HB3.out⟩
      · have HV : Hid (faultV (2, i, t) = fault2 (2, i, t)) := by show _ = _; unfold faultV; rw [if_neg (by simp), if_neg (by simp), if_neg (by simp), if_pos rfl]
        go_wp2_with fail
        have hs0 := CkS.new 2 i t HBl.out hBr
        have c0 := hs0.2.1
        have c1 := hs0.2.2.1
        have c2 := hs0.2.2.2
        clear y0 y1 y2 hn1 HBl HBa hBr
        generalize wr.alloc (.cells #[.int .i64 2, .int .i64 i, .string t] 59) = W at *
        generalize wr.heap.size = n at *
        go_region_held3 (fun W' => CkS w B n 2 i t W' ∧ W'.cell? ⟨n, 0, none⟩ = some (.int .i64 2) ∧ W'.cell? ⟨n, 1, none⟩ = some (.int .i64 i) ∧ W'.cell? ⟨n, 2, none⟩ = some (.string t)) (first | assumption | exact CkS.keep (by assumption) | exact CkS.keep (CkS.drew (by assumption)) | exact CkS.keep (CkS.drew (And.left (by assumption)))) (first | (go_at_call 82; refine (CkS.call (by first | assumption | exact And.left (by assumption)) (layE_2 _)).mono ?_; rintro e w' ⟨rfl, hSx⟩) | (go_at_call 129; refine (CkS.call (by first | assumption | exact And.left (by assumption)) (check2 (2, i, t) _)).mono ?_; rintro e w' ⟨rfl, hSy⟩))
        have HB3 : Hid (Below B w _) := hSy.1.1
        clear hs0 c0 c1 c2 hSx hSy
        rw [← HV.out]
        generalize faultV (2, i, t) = c at *
        cases hc : (c != 0)
        · have hc0 : c = 0 := by simpa using hc
          have HZ : Hid (c = 0) := hc0
          clear hc0
          go_wp2
          go_roundw
          case rel => exact ⟨k + 1, by omega, by go_num, by rw [HF.out, HS.out, if_neg (by simp [HZ.out])], HB3.out⟩
          case measure => simp [intOf]; omega
        · have HZ : Hid (c ≠ 0) := by show _ ≠ _; simpa using hc
          go_wp2
          go_ret
          exact ⟨by rw [HF.out, HS.out, if_pos HZ.out]; rfl, HB3.out⟩
      · have HV : Hid (faultV (3, i, t) = fault3 (3, i, t)) := by show _ = _; unfold faultV; rw [if_neg (by simp), if_neg (by simp), if_neg (by simp), if_neg (by simp)]
        go_wp2_with fail
        have hs0 := CkS.new 3 i t HBl.out hBr
        have c0 := hs0.2.1
        have c1 := hs0.2.2.1
        have c2 := hs0.2.2.2
        clear y0 y1 y2 hn1 HBl HBa hBr
        generalize wr.alloc (.cells #[.int .i64 3, .int .i64 i, .string t] 59) = W at *
        generalize wr.heap.size = n at *
        go_region_held3 (fun W' => CkS w B n 3 i t W' ∧ W'.cell? ⟨n, 0, none⟩ = some (.int .i64 3) ∧ W'.cell? ⟨n, 1, none⟩ = some (.int .i64 i) ∧ W'.cell? ⟨n, 2, none⟩ = some (.string t)) (first | assumption | exact CkS.keep (by assumption) | exact CkS.keep (CkS.drew (by assumption)) | exact CkS.keep (CkS.drew (And.left (by assumption)))) (first | (go_at_call 82; refine (CkS.call (by first | assumption | exact And.left (by assumption)) (layE_3 _)).mono ?_; rintro e w' ⟨rfl, hSx⟩) | (go_at_call 134; refine (CkS.call (by first | assumption | exact And.left (by assumption)) (check3 (3, i, t) _ hvs)).mono ?_; rintro e w' ⟨rfl, hSy⟩))
        have HB3 : Hid (Below B w _) := hSy.1.1
        clear hs0 c0 c1 c2 hSx hSy
        rw [← HV.out]
        generalize faultV (3, i, t) = c at *
        cases hc : (c != 0)
        · have hc0 : c = 0 := by simpa using hc
          have HZ : Hid (c = 0) := hc0
          clear hc0
          go_wp2
          go_roundw
          case rel => exact ⟨k + 1, by omega, by go_num, by rw [HF.out, HS.out, if_neg (by simp [HZ.out])], HB3.out⟩
          case measure => simp [intOf]; omega
        · have HZ : Hid (c ≠ 0) := by show _ ≠ _; simpa using hc
          go_wp2
          go_ret
          exact ⟨by rw [HF.out, HS.out, if_pos HZ.out]; rfl, HB3.out⟩
    · have HE := faultL_end vs k (by omega)
      have HE2 : Hid (faultL (vs.drop k) = 0) := HE
      clear HE
      go_wp2
      go_ret
      exact ⟨by rw [HF.out, HE2.out]; rfl, HBl.out⟩
end Go.Proofs.YtjcffcpmegpjeaaGreatDoor

namespace Go.Proofs.YtjcffcpmegpjeaaGreatDoor
open Go.ChangeShapes Go.WideShapes Go.ChangeAt Go.RowKit
set_option linter.unusedVariables false
set_option maxRecDepth 100000

/-- The bytes of a value in a key. -/
def keyV (v : Int × Int × ByteArray) : List Int := if v.1 = 0 then [16] else if v.1 = 1 then [32 + v.2.1] else if v.1 = 2 then keyI v.2.1 else 80 :: escL v.2.2.data.toList ++ [0, 1]
def keyL (vs : List (Int × Int × ByteArray)) : List Int := vs.flatMap keyV
def okV (v : Int × Int × ByteArray) : Prop := v.1 = 0 ∨ (v.1 = 1 ∧ 0 ≤ v.2.1 ∧ v.2.1 ≤ 1) ∨ v.1 = 2 ∨ (v.1 = 3 ∧ v.2.2.size ≤ 4096)
theorem okV_of (v : Int × Int × ByteArray) (h : faultV v = 0) : okV v := by
  obtain ⟨a, i, t⟩ := v
  unfold faultV at h
  simp only at h
  split at h
  · simp at h
  · split at h
    · exact .inl (by assumption)
    · split at h
      · refine .inr (.inl ⟨by assumption, ?_⟩)
        unfold fault1 at h
        simp only at h
        split at h
        · rename_i q
          simp at q
          constructor <;> (simp only; omega)
        · simp at h
      · split at h
        · exact .inr (.inr (.inl (by assumption)))
        · refine .inr (.inr (.inr ⟨by simp only; omega, ?_⟩))
          unfold fault3 at h
          simp only at h
          split at h
          · simp at h
          · rename_i q
            split at h
            · rename_i q2
              simp only [q2, Bool.true_and, decide_eq_true_eq] at q
              simp only
              omega
            · simp at h
theorem faultL_zero : ∀ (vs : List (Int × Int × ByteArray)), faultL vs = 0 → ∀ v ∈ vs, okV v
  | [], _, v, hv => by simp at hv
  | x :: r, h, v, hv => by
    unfold faultL at h
    split at h
    · rename_i q; exact absurd h q
    · rename_i q
      rcases List.mem_cons.1 hv with e | e
      · rw [e]; exact okV_of _ (by simpa using q)
      · exact faultL_zero r h v e
theorem keyI_len (i : Int) : (keyI i).length ≤ 9 := by
  unfold keyI
  have h1 := szB_le i.toNat
  have h2 := szB_le (-1 - i).toNat
  split <;> (rw [List.length_cons, hiB_len]; omega)
theorem keyV_len (v : Int × Int × ByteArray) (h : okV v) : (keyV v).length ≤ 9000 := by
  unfold keyV
  have h1 := keyI_len v.2.1
  have h2 := escL_len v.2.2.data.toList
  have h3 : v.2.2.data.toList.length = v.2.2.size := by rw [Array.length_toList]; rfl
  split
  · simp
  · split
    · simp
    · split
      · omega
      · rcases h with e | e | e | e
        · omega
        · omega
        · omega
        · rw [List.length_append, List.length_cons]; simp only [List.length_cons, List.length_nil]; omega
theorem keyL_len : ∀ (vs : List (Int × Int × ByteArray)), (∀ v ∈ vs, okV v) → (keyL vs).length ≤ 9000 * vs.length
  | [], _ => by simp [keyL]
  | x :: r, h => by
    have h1 := keyV_len x (h x (by simp))
    have h2 := keyL_len r (fun v hv => h v (by simp [hv]))
    unfold keyL at h2 ⊢
    rw [List.flatMap_cons, List.length_append, List.length_cons]
    omega
theorem keyL_take (vs : List (Int × Int × ByteArray)) (k : Nat) (h : k < vs.length) : keyL (vs.take (k + 1)) = keyL (vs.take k) ++ keyV vs[k] := by
  unfold keyL
  rw [List.take_succ_eq_append_getElem h, List.flatMap_append]
  simp
theorem ownB.later {w w' : World} {B : Nat} {v : Value} {xs : List Int} (h : ownB w B v xs) (hb : Below w.heap.size w w') : ownB w' B v xs := by
  obtain ⟨h1, h2⟩ := h
  refine ⟨h1, ?_⟩
  rcases h2 with h2 | ⟨g, cap, cur, e, hb1, hg, r⟩
  · exact .inl h2
  · refine .inr ⟨g, cap, cur, e, hb1, ?_, r⟩
    rw [hb.block g (Array.getElem?_eq_some_iff.1 hg).1]
    exact hg
theorem kyS_lay {w W : World} {B n : Nat} {kd i : Int} {t : ByteArray} {f : FuncId} {args : Array Value} {r : Ending} {c : Value} {xs : List Int} (h : CkS w B n kd i t W) (hO : ownB W B c xs) (hc : Calls Tryz.prog f args W fun e w' => e = r ∧ Below W.heap.size W w') : Calls Tryz.prog f args W fun e w' => e = r ∧ CkS w B n kd i t w' ∧ ownB w' B c xs :=
  hc.mono fun _ _ h2 => ⟨h2.1, h.later h2.2, hO.later h2.2⟩
theorem kyS_key {w W : World} {B n : Nat} {kd i : Int} {t : ByteArray} {f : FuncId} {args : Array Value} {c : Value} {ys : List Int} (h : CkS w B n kd i t W) (hne : some n ≠ c.ownBlock) (hc : Calls Tryz.prog f args W fun e w' => ∃ b', e = .returned b' ∧ ownB w' B b' ys ∧ Below B W w' ∧ Gr c W b' w') :
    Calls Tryz.prog f args W fun e w' => ∃ b', e = .returned b' ∧ CkS w B n kd i t w' ∧ ownB w' B b' ys := by
  refine hc.mono fun e w' h2 => ?_
  obtain ⟨b', he, ho, hb, hg⟩ := h2
  obtain ⟨⟨h1, h2, h3⟩, c0, c1, c2⟩ := h
  have hz := hb.size
  exact ⟨b', he, ⟨⟨h1.trans hb, by omega, by omega⟩, hg.cell c0 h3 hne, hg.cell c1 h3 hne, hg.cell c2 h3 hne⟩, ho⟩
theorem CkS.le {w W : World} {B n : Nat} {kd i : Int} {t : ByteArray} (h : CkS w B n kd i t W) : B ≤ W.heap.size := h.1.2.1
attribute [local go_sem ↓] Go.wp_at_zero Go.wp_at_succ
attribute [local go_sem] fld0_1 fld1_1 fld2_1 fld3_1
set_option maxRecDepth 100000 in
set_option maxHeartbeats 3200000 in
theorem keyG (a : Value) (vs : List (Int × Int × ByteArray)) (B : Nat) (w : World) (hB : B ≤ w.heap.size) (ha : SeesV w B a vs) (hv : ∀ v ∈ vs, v.2.2.size ≤ 9223372036854775807 ∧ -9223372036854775808 ≤ v.2.1 ∧ v.2.1 ≤ 9223372036854775807) :
    Calls Tryz.prog 78 #[a] w fun e w' => e = .returned (if 16 < vs.length then .tuple #[.string ⟨#[]⟩, .int .i64 18] else if faultL vs = 0 then .tuple #[.string (strOfNums (keyL vs)), .int .i64 0] else .tuple #[.string ⟨#[]⟩, .int .i64 (faultL vs)]) ∧ Below B w w' := by
  have hC := check_any a vs B w hB ha (fun v h => (hv v h).1)
  have HA0 : Hid (SeesV w B a vs) := ha
  obtain ⟨ao, cap, rfl, hl1, hc1, hs1⟩ := ha
  clear hs1
  by_cases hm : 16 < vs.length
  · rw [if_pos hm] at hC ⊢
    go_enter Tryz.func78, Tryz.ntmps78
    go_wp2_with fail
    refine hC.mono ?_
    rintro e w1 ⟨rfl, hb1⟩
    have HA := HA0.out.later hb1
    have HB1 : Hid (Below B w w1) := hb1
    have hB1 : B ≤ w1.heap.size := by have := hb1.size; omega
    clear hb1 HA0 hC
    go_wp2
    go_ret2
    exact ⟨rfl, HB1.out⟩
  rw [if_neg hm] at hC ⊢
  by_cases hf : faultL vs = 0
  · rw [if_pos hf]
    rw [hf] at hC
    go_enter Tryz.func78, Tryz.ntmps78
    go_wp2_with fail
    refine hC.mono ?_
    rintro e w1 ⟨rfl, hb1⟩
    have HA := HA0.out.later hb1
    have HB1 : Hid (Below B w w1) := hb1
    have hB1 : B ≤ w1.heap.size := by have := hb1.size; omega
    clear hb1 HA0 hC
    obtain ⟨ao', cap', e', hl1', hc1', hs1⟩ := HA
    simp only [Value.slice.injEq, true_and] at e'
    obtain ⟨rfl, rfl⟩ := e'
    have HA2 : Hid _ := hs1
    clear hs1
    have hok := faultL_zero vs hf
    go_wp2
    go_loopw [5, 15] (fun c i wr => ∃ k : Nat, k ≤ vs.length ∧ i = .int .i64 k ∧ ownB wr B c (keyL (vs.take k)) ∧ Below B w1 wr) (fun _ i _ => vs.length - (intOf i).toNat)
    case atStart => exact ⟨0, by omega, rfl, ownB_nil _ _, Below.refl _ _⟩
    case round =>
      obtain ⟨k, hk, rfl, hown, hbel⟩ := hrel
      have HO : Hid (ownB wr B _ (keyL (vs.take k))) := hown
      have HBl : Hid (Below B w1 wr) := hbel
      have hBr : B ≤ wr.heap.size := by have := hbel.size; omega
      have hx : (keyL (vs.take k)).length ≤ 140737488340000 := by
        have h3 := keyL_len (vs.take k) (fun v hv => hok v (List.mem_of_mem_take hv))
        have h4 : (vs.take k).length ≤ 16 := by rw [List.length_take]; omega
        omega
      have hne : some wr.heap.size ≠ Value.ownBlock _ := fun h => by have := World.ownsRow.lt hown _ h.symm; omega
      clear hown hbel
      by_cases h1 : k < vs.length
      · obtain ⟨b1, o1, e1, hb1, x0, x1, x2⟩ := HA2.out k h1
        have y0 := (HBl.out.cell (p := ⟨b1, o1 + k * 3, none⟩) hb1).trans x0
        have y1 := (HBl.out.cell (p := ⟨b1, o1 + k * 3 + 1, none⟩) hb1).trans x1
        have y2 := (HBl.out.cell (p := ⟨b1, o1 + k * 3 + 2, none⟩) hb1).trans x2
        clear x0 x1 x2
        subst e1
        have hK := keyL_take vs k h1
        have hvs := hv _ (List.getElem_mem h1)
        have hvo := hok _ (List.getElem_mem h1)
        have hn1 : b1 < wr.heap.size := by omega
        generalize hvk : vs[k] = v at *
        obtain ⟨kd, i, t⟩ := v
        have HK : Hid (keyL (vs.take (k + 1)) = keyL (vs.take k) ++ keyV (kd, i, t)) := hK
        clear hK hvk
        unfold okV at hvo
        simp only at y0 y1 y2 hvs hvo
        obtain ⟨hv1, hv2, hv3⟩ := hvs
        rcases hvo with rfl | ⟨rfl, hv4, hv5⟩ | rfl | ⟨rfl, hv4⟩
        · go_wp2_with fail
          have hs0 := CkS.new 0 i t HBl.out hBr
          have c0 := hs0.2.1
          have c1 := hs0.2.2.1
          have c2 := hs0.2.2.2
          have HO1 : Hid (ownB (wr.alloc (.cells #[.int .i64 0, .int .i64 i, .string t] 59)) B _ (keyL (vs.take k))) := HO.out.alloc _
          clear y0 y1 y2 hn1 HBl hBr HO
          generalize wr.alloc (.cells #[.int .i64 0, .int .i64 i, .string t] 59) = W at *
          generalize wr.heap.size = n at *
          generalize hxs : keyL (vs.take k) = xs at *
          go_region_held3 (fun W' => CkS w1 B n 0 i t W' ∧ W'.cell? ⟨n, 0, none⟩ = some (.int .i64 0) ∧ W'.cell? ⟨n, 1, none⟩ = some (.int .i64 i) ∧ W'.cell? ⟨n, 2, none⟩ = some (.string t)) (first | assumption | exact CkS.keep (by assumption) | exact CkS.keep (CkS.drew (by assumption)) | exact CkS.keep (CkS.drew (And.left (by assumption)))) (first | (go_at_call 82; refine (kyS_lay (by first | assumption | exact And.left (by assumption)) (by first | exact HO1.out | exact HO1.out.drew) (layE_0 _)).mono ?_; rintro e w' ⟨rfl, hSx, hOx⟩) | (go_at_call 120; refine (kyS_key (by first | assumption | exact And.left (by assumption)) hne (key0 _ xs (0, i, t) B _ (CkS.le (by first | assumption | exact And.left (by assumption))) (by first | exact hOx | exact hOx.drew) (Nat.le_trans hx (by omega)) )).mono ?_; rintro e w' ⟨b2, rfl, hSy, hOy⟩))
          have HB3 : Hid (Below B w1 _) := hSy.1.1
          have HO3 : Hid (ownB _ B b2 (xs ++ _)) := hOy
          clear hs0 c0 c1 c2 hSx hSy hOx hOy HO1
          go_wp2
          go_roundw
          case rel => exact ⟨k + 1, by omega, by go_num, by rw [HK.out]; exact HO3.out, HB3.out⟩
          case measure => simp [intOf]; omega
        · go_wp2_with fail
          have hs0 := CkS.new 1 i t HBl.out hBr
          have c0 := hs0.2.1
          have c1 := hs0.2.2.1
          have c2 := hs0.2.2.2
          have HO1 : Hid (ownB (wr.alloc (.cells #[.int .i64 1, .int .i64 i, .string t] 59)) B _ (keyL (vs.take k))) := HO.out.alloc _
          clear y0 y1 y2 hn1 HBl hBr HO
          generalize wr.alloc (.cells #[.int .i64 1, .int .i64 i, .string t] 59) = W at *
          generalize wr.heap.size = n at *
          generalize hxs : keyL (vs.take k) = xs at *
          go_region_held3 (fun W' => CkS w1 B n 1 i t W' ∧ W'.cell? ⟨n, 0, none⟩ = some (.int .i64 1) ∧ W'.cell? ⟨n, 1, none⟩ = some (.int .i64 i) ∧ W'.cell? ⟨n, 2, none⟩ = some (.string t)) (first | assumption | exact CkS.keep (by assumption) | exact CkS.keep (CkS.drew (by assumption)) | exact CkS.keep (CkS.drew (And.left (by assumption)))) (first | (go_at_call 82; refine (kyS_lay (by first | assumption | exact And.left (by assumption)) (by first | exact HO1.out | exact HO1.out.drew) (layE_1 _)).mono ?_; rintro e w' ⟨rfl, hSx, hOx⟩) | (go_at_call 125; refine (kyS_key (by first | assumption | exact And.left (by assumption)) hne (key1 _ xs (1, i, t) B _ (CkS.le (by first | assumption | exact And.left (by assumption))) (by first | exact hOx | exact hOx.drew) (Nat.le_trans hx (by omega)) hv4 hv5)).mono ?_; rintro e w' ⟨b2, rfl, hSy, hOy⟩))
          have HB3 : Hid (Below B w1 _) := hSy.1.1
          have HO3 : Hid (ownB _ B b2 (xs ++ _)) := hOy
          clear hs0 c0 c1 c2 hSx hSy hOx hOy HO1
          go_wp2
          go_roundw
          case rel => exact ⟨k + 1, by omega, by go_num, by rw [HK.out]; exact HO3.out, HB3.out⟩
          case measure => simp [intOf]; omega
        · go_wp2_with fail
          have hs0 := CkS.new 2 i t HBl.out hBr
          have c0 := hs0.2.1
          have c1 := hs0.2.2.1
          have c2 := hs0.2.2.2
          have HO1 : Hid (ownB (wr.alloc (.cells #[.int .i64 2, .int .i64 i, .string t] 59)) B _ (keyL (vs.take k))) := HO.out.alloc _
          clear y0 y1 y2 hn1 HBl hBr HO
          generalize wr.alloc (.cells #[.int .i64 2, .int .i64 i, .string t] 59) = W at *
          generalize wr.heap.size = n at *
          generalize hxs : keyL (vs.take k) = xs at *
          go_region_held3 (fun W' => CkS w1 B n 2 i t W' ∧ W'.cell? ⟨n, 0, none⟩ = some (.int .i64 2) ∧ W'.cell? ⟨n, 1, none⟩ = some (.int .i64 i) ∧ W'.cell? ⟨n, 2, none⟩ = some (.string t)) (first | assumption | exact CkS.keep (by assumption) | exact CkS.keep (CkS.drew (by assumption)) | exact CkS.keep (CkS.drew (And.left (by assumption)))) (first | (go_at_call 82; refine (kyS_lay (by first | assumption | exact And.left (by assumption)) (by first | exact HO1.out | exact HO1.out.drew) (layE_2 _)).mono ?_; rintro e w' ⟨rfl, hSx, hOx⟩) | (go_at_call 130; refine (kyS_key (by first | assumption | exact And.left (by assumption)) hne (key2 _ xs (2, i, t) B _ (CkS.le (by first | assumption | exact And.left (by assumption))) (by first | exact hOx | exact hOx.drew) (Nat.le_trans hx (by omega)) hv2 hv3)).mono ?_; rintro e w' ⟨b2, rfl, hSy, hOy⟩))
          have HB3 : Hid (Below B w1 _) := hSy.1.1
          have HO3 : Hid (ownB _ B b2 (xs ++ _)) := hOy
          clear hs0 c0 c1 c2 hSx hSy hOx hOy HO1
          go_wp2
          go_roundw
          case rel => exact ⟨k + 1, by omega, by go_num, by rw [HK.out]; exact HO3.out, HB3.out⟩
          case measure => simp [intOf]; omega
        · go_wp2_with fail
          have hs0 := CkS.new 3 i t HBl.out hBr
          have c0 := hs0.2.1
          have c1 := hs0.2.2.1
          have c2 := hs0.2.2.2
          have HO1 : Hid (ownB (wr.alloc (.cells #[.int .i64 3, .int .i64 i, .string t] 59)) B _ (keyL (vs.take k))) := HO.out.alloc _
          clear y0 y1 y2 hn1 HBl hBr HO
          generalize wr.alloc (.cells #[.int .i64 3, .int .i64 i, .string t] 59) = W at *
          generalize wr.heap.size = n at *
          generalize hxs : keyL (vs.take k) = xs at *
          go_region_held3 (fun W' => CkS w1 B n 3 i t W' ∧ W'.cell? ⟨n, 0, none⟩ = some (.int .i64 3) ∧ W'.cell? ⟨n, 1, none⟩ = some (.int .i64 i) ∧ W'.cell? ⟨n, 2, none⟩ = some (.string t)) (first | assumption | exact CkS.keep (by assumption) | exact CkS.keep (CkS.drew (by assumption)) | exact CkS.keep (CkS.drew (And.left (by assumption)))) (first | (go_at_call 82; refine (kyS_lay (by first | assumption | exact And.left (by assumption)) (by first | exact HO1.out | exact HO1.out.drew) (layE_3 _)).mono ?_; rintro e w' ⟨rfl, hSx, hOx⟩) | (go_at_call 135; refine (kyS_key (by first | assumption | exact And.left (by assumption)) hne (key3 _ xs (3, i, t) B _ (CkS.le (by first | assumption | exact And.left (by assumption))) (by first | exact hOx | exact hOx.drew) hx hv4)).mono ?_; rintro e w' ⟨b2, rfl, hSy, hOy⟩))
          have HB3 : Hid (Below B w1 _) := hSy.1.1
          have HO3 : Hid (ownB _ B b2 (xs ++ _)) := hOy
          clear hs0 c0 c1 c2 hSx hSy hOx hOy HO1
          go_wp2
          go_roundw
          case rel => exact ⟨k + 1, by omega, by go_num, by rw [HK.out]; exact HO3.out, HB3.out⟩
          case measure => simp [intOf]; omega
      · have hke : vs.take k = vs := List.take_of_length_le (by omega)
        rw [hke] at HO
        have hcv := HO.out.conv
        go_wp2
        go_ret2
        exact ⟨rfl, HB1.out.trans HBl.out⟩
  · rw [if_neg hf]
    generalize faultL vs = c at *
    have hcc : (c != 0) = true := by simpa using hf
    go_enter Tryz.func78, Tryz.ntmps78
    go_wp2_with fail
    refine hC.mono ?_
    rintro e w1 ⟨rfl, hb1⟩
    have HA := HA0.out.later hb1
    have HB1 : Hid (Below B w w1) := hb1
    have hB1 : B ≤ w1.heap.size := by have := hb1.size; omega
    clear hb1 HA0 hC
    go_wp2
    go_ret2
    exact ⟨rfl, HB1.out⟩
end Go.Proofs.YtjcffcpmegpjeaaGreatDoor
