import Derived.Test.YtfabgoanammaiaaKeys3
import Derived.Test.YtfabgoanammaiaaKeys1
import Derived.Laws.ShiftsVarLaws
import Derived.Deep.AppendLies
import Derived.Deep.DrawnRows
namespace Go.Proofs.Ytfabgoanammaiaa
open Go.ChangeShapes Go.WideShapes Go.ChangeAt Go.RowKit
set_option linter.unusedVariables false

theorem szF_le : ∀ (f u : Nat), szF f u ≤ f
  | 0, u => by simp [szF]
  | f + 1, u => by have := szF_le f (u / 256); unfold szF; split <;> omega
theorem szB_le (u : Nat) : szB u ≤ 8 := szF_le 8 u
theorem bytes_any (u : Nat) (w : World) (hu : u < 18446744073709551616) : Calls Try.prog 67 #[.int .u64 u] w fun e w' => e = .returned (.int .i64 (szB u)) ∧ w' = w := by
  go_enter Try.func67, Try.ntmps67
  go_wp2_with (go_at_call 77; refine (len_any u _ hu).mono ?_; rintro e w' ⟨⟨L, rfl, l0, l1, hl⟩, rfl⟩; have HL : Hid ((L + 7) / 8 = szB u) := hl; clear hl)
  go_ret
  exact ⟨ret_t _ HL.out, rfl⟩
/-- The n lowest bytes of v, the highest first. -/
def hiB : Nat → Int → List Int
  | 0, _ => []
  | n + 1, v => (v / 2 ^ (8 * n) % 256) :: hiB n v
theorem hiB_len : ∀ (n : Nat) (v : Int), (hiB n v).length = n
  | 0, _ => rfl
  | n + 1, v => by simp [hiB, hiB_len n v]
/-- From the slice b in w to the slice c in w': no block is turned but b's own. -/
structure Gr (b : Value) (w : World) (c : Value) (w' : World) : Prop where
  far : ∀ k, k < w.heap.size → some k ≠ b.ownBlock → w'.heap[k]? = w.heap[k]?
  own : c.ownBlock = b.ownBlock ∨ ∀ k, c.ownBlock = some k → w.heap.size ≤ k
  size : w.heap.size ≤ w'.heap.size
theorem Gr.refl (b : Value) (w : World) : Gr b w b w := ⟨fun _ _ _ => rfl, .inl rfl, Nat.le_refl _⟩
theorem Gr.trans {b c d : Value} {w w1 w2 : World} (h : Gr b w c w1) (k : Gr c w1 d w2) : Gr b w d w2 := by
  refine ⟨fun j hj hn => ?_, ?_, Nat.le_trans h.size k.size⟩
  · rw [k.far j (Nat.lt_of_lt_of_le hj h.size) ?_, h.far j hj hn]
    rcases h.own with e | e
    · rw [e]; exact hn
    · intro e2; have := e j e2.symm; omega
  · rcases k.own with e | e
    · rcases h.own with e2 | e2
      · exact .inl (e.trans e2)
      · exact .inr (by rw [e]; exact e2)
    · exact .inr fun j hj => Nat.le_trans h.size (e j hj)
theorem Gr.alloc (b : Value) (w : World) (o : Obj) : Gr b w b (w.alloc o) := ⟨fun k hk _ => Below.heap_alloc w o k hk, .inl rfl, Nat.le_of_lt (lt_alloc w o)⟩
theorem app_oneL {wr : World} {ops : Array Oper} {rest : List Oper} {o : Oper} {a : Act} {Q : Exit → Act → World → Prop} (hgd : o.guard = none) (s x : Operand)
    (ho : o.op = .call { callee := .builtin .append, args := #[s, x], argTypes := #[47, 47] })
    (B : Nat) (v : Value) (xs : List Int) (c : Int) (hown : ownB wr B v xs) (hs : a.eval s = v) (g : Nat) (hg : g = wr.heap.size) (hx : a.eval x = .slice (some ⟨g, 0, none⟩) 1 1)
    (hlen : xs.length + 1 ≤ 140737488355328) (hB : B ≤ wr.heap.size)
    (h : ∀ v' w', ownB w' B v' (xs ++ [c]) → Below B wr w' → Gr v wr v' w' → wpList Try.prog ops Q rest (a.put o.dst v') w') :
    wpList Try.prog ops Q (o :: rest) a (wr.alloc (.cells #[.int .u8 c] 5)) := by
  subst hg
  obtain ⟨i0, hi, hz0, hz1, hz2⟩ := info_parts infoB
  refine wpList_append_lies _ hgd s x 47 ho B 5 i0 (.int .u8 0) 1 1 Try.underlying47 hi hz0 hz1 hz2 rfl (by decide) v xs.length _ hs (World.ownsRow.alloc hown _)
    ⟨wr.heap.size, 0, none⟩ 1 1 [.int .u8 c] hx rfl (World.news_of_block (cs := #[.int .u8 c]) (heap_alloc_new wr _)) (by intro u hu; simp at hu; subst hu; rfl) (by decide) (by unfold maxLen; omega) (by omega) (by simp; omega) (wr.heap.size + 1) (by simp) ?_
  intro g' cap w' hown' hgrow hlies _
  have hsz := lt_alloc wr (.cells #[.int .u8 c] 5)
  refine h _ w' ?_ ?_ ?_
  · have : (xs ++ [c]).length = xs.length + 1 := by simp
    unfold ownB; rw [this, List.map_append]; exact hown'
  · exact ((Below.refl _ _).alloc hB _).grown hgrow (by omega) (fun k hk => (World.ownsRow.lt hown k hk).1)
  · refine ⟨fun k hk hn => ?_, ?_, ?_⟩
    · rw [hgrow.block k (by omega) hn]; exact Below.heap_alloc wr _ k hk
    · rcases hlies with e | e
      · exact .inl e.symm
      · exact .inr fun k hk => by simp [Value.ownBlock] at hk; omega
    · have := hgrow.size; omega
set_option maxRecDepth 100000 in
set_option maxHeartbeats 800000 in
theorem layHF (b : Value) (xs : List Int) (v : Int) (n : Nat) (B : Nat) (w : World) (hn : n ≤ 8) (h0 : 0 ≤ v) (h1 : v ≤ 18446744073709551615) (hB : B ≤ w.heap.size) (hown : ownB w B b xs) (hx : xs.length ≤ 140737488353280) :
    Calls Try.prog 68 #[b, .int .u64 v, .int .i64 n] w fun e w' => ∃ b', e = .returned b' ∧ ownB w' B b' (xs ++ hiB n v) ∧ Below B w w' ∧ Gr b w b' w' := by
  go_enter Try.func68, Try.ntmps68
  go_wp2
  go_loopw [0, 7] (fun c i wr => ∃ (k : Nat) (done : List Int), k ≤ n ∧ i = .int .i64 ((k : Int) - 1) ∧ ownB wr B c (xs ++ done) ∧ done ++ hiB k v = hiB n v ∧ Below B w wr ∧ Gr b w c wr) (fun _ i _ => (intOf i + 1).toNat)
  case atStart => exact ⟨n, [], by omega, rfl, by simpa using hown, rfl, Below.refl _ _, Gr.refl _ _⟩
  case round =>
    obtain ⟨k, done, hk, rfl, hown1, hd, hbel, hgr⟩ := hrel
    have HD : Hid (done ++ hiB k v = hiB n v) := hd
    have HB : Hid (Below B w wr) := hbel
    have HG : Hid (Gr b w _ wr) := hgr
    have hBr : B ≤ wr.heap.size := by have := hbel.size; omega
    have HO : Hid (ownB wr B _ (xs ++ done)) := hown1
    have hdl : done.length ≤ 8 := by have h3 := congrArg List.length hd; rw [List.length_append, hiB_len, hiB_len] at h3; omega
    clear hd hbel hown1 hgr
    match k, hk, HD with
    | 0, hk, HD =>
      go_wp2
      go_ret
      refine ⟨_, rfl, ?_, HB.out, HG.out⟩
      have h4 := HD.out
      rw [show hiB 0 v = [] from rfl, List.append_nil] at h4
      rw [← h4]
      exact HO.out
    | k + 1, hk, HD =>
      go_wp2_with (at_builtin; refine app_oneL (by rfl) _ _ (by rfl) B _ (xs ++ done) _ HO.out (by rfl) _ (by rfl) (by rfl) (by simp; omega) hBr ?_; intro v' w1 hown1 hbel1 hgr1; have HO1 : Hid _ := hown1; have HB1 : Hid _ := hbel1; have HG1 : Hid (Gr _ wr v' w1) := hgr1; clear hown1 hbel1 hgr1)
      go_roundw
      case rel => exact ⟨k, done ++ [v / 2 ^ (8 * k) % 256], by omega, rfl, by rw [← List.append_assoc]; exact HO1.out, by rw [List.append_assoc, List.singleton_append]; exact HD.out, HB.out.trans HB1.out, HG.out.trans HG1.out⟩
      case measure => simp [intOf]
theorem ownB.alloc {w : World} {B : Nat} {v : Value} {xs : List Int} (h : ownB w B v xs) (o : Obj) : ownB (w.alloc o) B v xs := World.ownsRow.alloc h o
theorem app_oneG {wr : World} {ops : Array Oper} {rest : List Oper} {o : Oper} {a : Act} {Q : Exit → Act → World → Prop} (hgd : o.guard = none) (s x : Operand)
    (ho : o.op = .call { callee := .builtin .append, args := #[s, x], argTypes := #[47, 47] })
    (B : Nat) (v : Value) (xs : List Int) (c : Int) (hown : ownB wr B v xs) (hs : a.eval s = v) (g : Nat) (hg : g = wr.heap.size) (hx : a.eval x = .slice (some ⟨g, 0, none⟩) 1 1)
    (hlen : xs.length + 1 ≤ 140737488355328) (hB : B ≤ wr.heap.size)
    (h : ∀ v' w', ownB w' B v' (xs ++ [c]) → Below B wr w' → wpList Try.prog ops Q rest (a.put o.dst v') w') :
    wpList Try.prog ops Q (o :: rest) a (wr.alloc (.cells #[.int .u8 c] 5)) := by
  subst hg
  exact app_one hgd s x ho B v xs c hown hs hx hlen hB h
/-- An append of one byte at a step of a region that draws. -/
theorem step_app {W : World} {ops : Array Oper} {o : Oper} {a : Act} {K : Act → World → Prop} {Q : Exit → Act → World → Prop} {E : Prop} (hgd : o.guard = none) (s x : Operand)
    (ho : o.op = .call { callee := .builtin .append, args := #[s, x], argTypes := #[47, 47] })
    (B : Nat) (v : Value) (xs : List Int) (c : Int) (hown : ownB W B v xs) (hs : a.eval s = v) (g : Nat) (hg : W.heap[g]? = some (.cells #[.int .u8 c] 5 (0, 0))) (hx : a.eval x = .slice (some ⟨g, 0, none⟩) 1 1)
    (hlen : xs.length + 1 ≤ 140737488355328) (hB : B ≤ W.heap.size)
    (h : ∀ v' w', ownB w' B v' (xs ++ [c]) → W.grownBy w' v.ownBlock → (v'.ownBlock = v.ownBlock ∨ ∀ k, v'.ownBlock = some k → W.heap.size ≤ k) → K (a.put o.dst v') w') :
    if Region.wanted o (yielded ops a.tmps) = true then Oper.wp Try.prog o a W K Q else E := by
  obtain ⟨i0, hi, hz0, hz1, hz2⟩ := info_parts infoB
  refine step_append_lies _ hgd s x 47 ho B 5 i0 (.int .u8 0) 1 1 Try.underlying47 hi hz0 hz1 hz2 rfl (by decide) v xs.length _ hs hown
    ⟨g, 0, none⟩ 1 1 [.int .u8 c] hx rfl (World.news_of_block (cs := #[.int .u8 c]) hg) (by intro u hu; simp at hu; subst hu; rfl) (by decide) (by unfold maxLen; omega) (by omega) hB W.heap.size rfl ?_
  intro g' cap w' hown' hgrow hlies _
  refine h _ w' ?_ hgrow (by rcases hlies with e | e; exact .inl e.symm; exact .inr fun k hk => by simp [Value.ownBlock] at hk; omega)
  have : (xs ++ [c]).length = xs.length + 1 := by simp
  unfold ownB; rw [this, List.map_append]; exact hown'
theorem keepA {W w1 : World} {o : Obj} {row : Option Nat} {n j : Nat} {x : Value} (hgrow : (W.alloc o).drew.grownBy w1 row) (hc : W.cell? ⟨n, j, none⟩ = some x) (hne : some n ≠ row) (hn : n < W.heap.size) : w1.cell? ⟨n, j, none⟩ = some x := by
  have hsz := lt_alloc W o
  rw [hgrow.cell_far ⟨n, j, none⟩ (show n < (W.alloc o).heap.size by omega) hne]
  show (W.alloc o).cell? ⟨n, j, none⟩ = some x
  rw [World.cell?_of_block (w := W) (Below.heap_alloc W o n hn)]
  exact hc
theorem keepG {W w1 w2 : World} {o : Obj} {b v' b2 : Value} {n j : Nat} {x : Value} (hgrow : (W.alloc o).drew.grownBy w1 b.ownBlock) (hc : W.cell? ⟨n, j, none⟩ = some x) (hne : some n ≠ b.ownBlock) (hn : n < W.heap.size)
    (hgrA : v'.ownBlock = b.ownBlock ∨ ∀ k, v'.ownBlock = some k → (W.alloc o).drew.heap.size ≤ k) (hg : Gr v' w1 b2 w2) : w2.cell? ⟨n, j, none⟩ = some x := by
  have hsz := lt_alloc W o
  have h1 := hgrow.size
  have h2 : (W.alloc o).drew.heap.size = (W.alloc o).heap.size := rfl
  have hv : some n ≠ v'.ownBlock := by
    rcases hgrA with e | e
    · rw [e]; exact hne
    · intro e2; have := e n e2.symm; omega
  rw [World.cell?_of_block (w := w1) (hg.far n (by omega) hv)]
  exact keepA hgrow hc hne hn
theorem alloc_le {B : Nat} {W : World} {o : Obj} (h : B ≤ W.heap.size) : B ≤ (W.alloc o).drew.heap.size := Nat.le_trans h (Nat.le_of_lt (lt_alloc W o))
theorem grown_le {B : Nat} {W w1 : World} {o : Obj} {row : Option Nat} (hg : (W.alloc o).drew.grownBy w1 row) (h : B ≤ W.heap.size) : B ≤ w1.heap.size := Nat.le_trans (alloc_le h) hg.size
theorem below_grown {B : Nat} {W w1 : World} {o : Obj} {row : Option Nat} (hl : ∀ k, row = some k → B ≤ k) (h : B ≤ W.heap.size) (hg : (W.alloc o).drew.grownBy w1 row) : Below B W w1 :=
  ((Below.refl B W).alloc h o).drew.grown hg (alloc_le h) hl
theorem gr_grown {b v' : Value} {W w1 : World} {o : Obj} (hg : (W.alloc o).drew.grownBy w1 b.ownBlock) (hA : v'.ownBlock = b.ownBlock ∨ ∀ k, v'.ownBlock = some k → (W.alloc o).drew.heap.size ≤ k) : Gr b W v' w1 := by
  have hsz := lt_alloc W o
  have h1 := hg.size
  have h2 : (W.alloc o).drew.heap.size = (W.alloc o).heap.size := rfl
  refine ⟨fun k hk hn => ?_, ?_, by omega⟩
  · rw [hg.block k (by omega) hn]; exact Below.heap_alloc W o k hk
  · rcases hA with e | e
    · exact .inl e
    · exact .inr fun k hk => by have := e k hk; omega
theorem len1 {xs : List Int} {c : Int} (h : xs.length ≤ 140737488351232) : (xs ++ [c]).length ≤ 140737488353280 := by simp; omega
def valC (v : Int × Int × ByteArray) : Obj := .cells #[.int .i64 v.1, .int .i64 v.2.1, .string v.2.2] 45
set_option maxRecDepth 100000 in
theorem key0 (b : Value) (xs : List Int) (v : Int × Int × ByteArray) (B : Nat) (w : World) (hB : B ≤ w.heap.size) (hown : ownB w B b xs) (hx : xs.length ≤ 140737488351232) :
    Calls Try.prog 44 #[b, .agg #[.int .i64 v.1, .int .i64 v.2.1, .string v.2.2]] w fun e w' => ∃ b', e = .returned b' ∧ ownB w' B b' (xs ++ [16]) ∧ Below B w w' ∧ Gr b w b' w' := by
  obtain ⟨a, i, t⟩ := v
  have HO : Hid (ownB w B b xs) := hown
  have HB : Hid (Below B w (w.alloc (valC (a, i, t)))) := (Below.refl _ _).alloc hB _
  simp only
  clear hown
  go_enter Try.func44, Try.ntmps44
  go_wp2_with (at_builtin; refine app_oneL (by rfl) _ _ (by rfl) B _ xs _ (HO.out.alloc _) (by rfl) (w.heap.size + 1) (by simp) (by rfl) (by omega) (by simp; omega) ?_; intro v' w1 hown1 hbel1 hgr1; have HO1 : Hid _ := hown1; have HB1 : Hid _ := hbel1; have HG1 : Hid (Gr b w v' w1) := (Gr.alloc b w _).trans hgr1; clear hown1 hbel1 hgr1)
  go_ret
  exact ⟨_, rfl, HO1.out, HB.out.trans HB1.out, HG1.out⟩
set_option maxRecDepth 100000 in
theorem key1 (b : Value) (xs : List Int) (v : Int × Int × ByteArray) (B : Nat) (w : World) (hB : B ≤ w.heap.size) (hown : ownB w B b xs) (hx : xs.length ≤ 140737488351232) (h0 : 0 ≤ v.2.1) (h1 : v.2.1 ≤ 1) :
    Calls Try.prog 49 #[b, .agg #[.int .i64 v.1, .int .i64 v.2.1, .string v.2.2]] w fun e w' => ∃ b', e = .returned b' ∧ ownB w' B b' (xs ++ [32 + v.2.1]) ∧ Below B w w' ∧ Gr b w b' w' := by
  obtain ⟨a, i, t⟩ := v
  have HO : Hid (ownB w B b xs) := hown
  have HB : Hid (Below B w (w.alloc (valC (a, i, t)))) := (Below.refl _ _).alloc hB _
  simp only at h0 h1 ⊢
  clear hown
  go_enter Try.func49, Try.ntmps49
  go_wp2_with (at_builtin; refine app_oneL (by rfl) _ _ (by rfl) B _ xs _ (HO.out.alloc _) (by rfl) (w.heap.size + 1) (by simp) (by rfl) (by omega) (by simp; omega) ?_; intro v' w1 hown1 hbel1 hgr1; have HO1 : Hid _ := hown1; have HB1 : Hid _ := hbel1; have HG1 : Hid (Gr b w v' w1) := (Gr.alloc b w _).trans hgr1; clear hown1 hbel1 hgr1)
  go_ret
  refine ⟨_, rfl, ?_, HB.out.trans HB1.out, HG1.out⟩
  exact HO1.out
theorem u64_wrap_lo (i : Int) : 0 ≤ IntKind.u64.wrap i := by show 0 ≤ i % 18446744073709551616; omega
theorem u64_wrap_hi (i : Int) : IntKind.u64.wrap i ≤ 18446744073709551615 := by show i % 18446744073709551616 ≤ _; omega
theorem u64_not (i : Int) (u : Nat) (h : (u : Int) = -1 - i) (hu : u < 9223372036854775808) : bits .xor .u64 IntKind.u64.max (IntKind.u64.wrap i) = (u : Int) := by
  have e1 : IntKind.u64.wrap i = 18446744073709551615 - (u : Int) := by show i % 18446744073709551616 = _; omega
  rw [e1]
  show ((BitVec.ofInt 64 18446744073709551615 ^^^ BitVec.ofInt 64 (18446744073709551615 - (u : Int))).toNat : Int) % 18446744073709551616 = u
  have e2 : BitVec.ofInt 64 18446744073709551615 = BitVec.allOnes 64 := by decide
  have e3 : BitVec.ofInt 64 (18446744073709551615 - (u : Int)) = ~~~ (BitVec.ofNat 64 u) := by
    apply BitVec.eq_of_toNat_eq
    rw [BitVec.toNat_not, BitVec.toNat_ofNat, BitVec.toNat_ofInt]
    omega
  rw [e2, e3]
  have e4 : BitVec.allOnes 64 ^^^ ~~~ (BitVec.ofNat 64 u) = BitVec.ofNat 64 u := by
    rw [BitVec.allOnes_xor, BitVec.not_not]
  rw [e4, BitVec.toNat_ofNat]
  omega
/-- The bytes of a number in a key. -/
def keyI (i : Int) : List Int := if 0 ≤ i then (56 + (szB i.toNat : Int)) :: hiB (szB i.toNat) (IntKind.u64.wrap i) else (55 - (szB (-1 - i).toNat : Int)) :: hiB (szB (-1 - i).toNat) (IntKind.u64.wrap i)
theorem keyI_pos (xs : List Int) (u : Nat) : xs ++ [IntKind.u8.wrap (56 + IntKind.u8.wrap (szB u))] ++ hiB (szB u) (IntKind.u64.wrap u) = xs ++ keyI u := by
  have hz := szB_le u
  have hw : IntKind.u8.wrap (56 + IntKind.u8.wrap (szB u)) = 56 + (szB u : Int) := by show (56 + (szB u : Int) % 256) % 256 = _; omega
  unfold keyI
  rw [if_pos (by omega), hw, Int.toNat_natCast, List.append_assoc, List.singleton_append]
theorem keyI_neg (xs : List Int) (i : Int) (u : Nat) (hi : i < 0) (hu : (u : Int) = -1 - i) : xs ++ [IntKind.u8.wrap (55 - IntKind.u8.wrap (szB u))] ++ hiB (szB u) (IntKind.u64.wrap i) = xs ++ keyI i := by
  have hz := szB_le u
  have hw : IntKind.u8.wrap (55 - IntKind.u8.wrap (szB u)) = 55 - (szB u : Int) := by show (55 - (szB u : Int) % 256) % 256 = _; omega
  unfold keyI
  rw [if_neg (by omega), hw, ← hu, Int.toNat_natCast, List.append_assoc, List.singleton_append]
attribute [local go_sem ↓] Go.wp_at_zero Go.wp_at_succ
set_option maxRecDepth 100000 in
set_option maxHeartbeats 1600000 in
theorem key2 (b : Value) (xs : List Int) (v : Int × Int × ByteArray) (B : Nat) (w : World) (hB : B ≤ w.heap.size) (hown : ownB w B b xs) (hx : xs.length ≤ 140737488351232) (h0 : -9223372036854775808 ≤ v.2.1) (h1 : v.2.1 ≤ 9223372036854775807) :
    Calls Try.prog 54 #[b, .agg #[.int .i64 v.1, .int .i64 v.2.1, .string v.2.2]] w fun e w' => ∃ b', e = .returned b' ∧ ownB w' B b' (xs ++ keyI v.2.1) ∧ Below B w w' ∧ Gr b w b' w' := by
  obtain ⟨a, i, t⟩ := v
  have HO : Hid (ownB w B b xs) := hown
  have hne : (some w.heap.size : Option Nat) ≠ b.ownBlock := fun h => by have := World.ownsRow.lt hown _ h.symm; omega
  have HL : Hid (∀ k, b.ownBlock = some k → B ≤ k) := fun k hk => (World.ownsRow.lt hown k hk).1
  simp only at h0 h1 ⊢
  clear hown
  by_cases hi : 0 ≤ i
  · obtain ⟨u, rfl⟩ : ∃ u : Nat, i = u := ⟨i.toNat, by omega⟩
    have hz : szB u ≤ 8 := szB_le u
    go_enter Try.func54, Try.ntmps54
    go_wp2_with (go_at_call 67; refine (bytes_any u _ (by omega)).mono ?_; rintro e w1 ⟨rfl, rfl⟩)
    have c1 : (w.alloc (.cells #[.int .i64 a, .int .i64 u, .string t] 45)).cell? ⟨w.heap.size, 1, none⟩ = some (.int .i64 u) := by simp [go_sem]
    have q0 := World.new_ne _ _ c1
    have hsz := lt_alloc w (.cells #[.int .i64 a, .int .i64 u, .string t] 45)
    have HO2 : Hid (ownB (w.alloc (.cells #[.int .i64 a, .int .i64 u, .string t] 45)) B b xs) := HO.out.alloc _
    have HGW : Hid (Gr b w b (w.alloc (.cells #[.int .i64 a, .int .i64 u, .string t] 45))) := Gr.alloc _ _ _
    have HBW : Hid (Below B w (w.alloc (.cells #[.int .i64 a, .int .i64 u, .string t] 45))) := (Below.refl _ _).alloc hB _
    generalize w.alloc (.cells #[.int .i64 a, .int .i64 u, .string t] 45) = W at *
    generalize hn : w.heap.size = n at *
    have hBW : B ≤ W.heap.size := by omega
    have hc := c1
    have hneN := hne
    have hnN := hsz
    go_region_held3 (fun W' => W'.cell? ⟨n, 1, none⟩ = some (.int .i64 u)) (first | go_keep | exact keepA hgrow hc hneN hnN | exact keepG hgrow hc hneN hnN hgrA hgr2) (first | (go_at_call 68; refine (layHF _ _ _ (szB u) B _ hz (u64_wrap_lo _) (u64_wrap_hi _) (grown_le hgrow hBW) hown1 (len1 hx)).mono ?_; rintro e w2 ⟨b2, rfl, hown2, hbel2, hgr2⟩) | ((refine step_app (by rfl) _ _ (by rfl) B b xs _ ((HO2.out.alloc _).drew) (by rfl) _ (heap_alloc_new _ _) (by rfl) (by omega) (alloc_le hBW) ?_; intro v' w1 hown1 hgrow hgrA)))
    have HO3 : Hid _ := hown2
    have HB3 : Hid (Below B W _) := (below_grown HL.out hBW hgrow).trans hbel2
    have HG3 : Hid (Gr b W _ _) := (gr_grown hgrow hgrA).trans hgr2
    clear hown1 hown2 hbel2 hgr2 hgrA hgrow
    go_wp2
    go_ret
    refine ⟨_, rfl, ?_, HBW.out.trans HB3.out, HGW.out.trans HG3.out⟩
    rw [← keyI_pos]
    exact HO3.out
  · obtain ⟨u, hu⟩ : ∃ u : Nat, (u : Int) = -1 - i := ⟨(-1 - i).toNat, by omega⟩
    have hz : szB u ≤ 8 := szB_le u
    go_enter Try.func54, Try.ntmps54
    go_wp2_with (go_at_call 67; rw [u64_not i u hu (by omega)]; refine (bytes_any u _ (by omega)).mono ?_; rintro e w1 ⟨rfl, rfl⟩)
    have c1 : (w.alloc (.cells #[.int .i64 a, .int .i64 i, .string t] 45)).cell? ⟨w.heap.size, 1, none⟩ = some (.int .i64 i) := by simp [go_sem]
    have q0 := World.new_ne _ _ c1
    have hsz := lt_alloc w (.cells #[.int .i64 a, .int .i64 i, .string t] 45)
    have HO2 : Hid (ownB (w.alloc (.cells #[.int .i64 a, .int .i64 i, .string t] 45)) B b xs) := HO.out.alloc _
    have HGW : Hid (Gr b w b (w.alloc (.cells #[.int .i64 a, .int .i64 i, .string t] 45))) := Gr.alloc _ _ _
    have HBW : Hid (Below B w (w.alloc (.cells #[.int .i64 a, .int .i64 i, .string t] 45))) := (Below.refl _ _).alloc hB _
    generalize w.alloc (.cells #[.int .i64 a, .int .i64 i, .string t] 45) = W at *
    generalize hn : w.heap.size = n at *
    have hBW : B ≤ W.heap.size := by omega
    have hc := c1
    have hneN := hne
    have hnN := hsz
    go_region_held3 (fun W' => W'.cell? ⟨n, 1, none⟩ = some (.int .i64 i)) (first | go_keep | exact keepA hgrow hc hneN hnN | exact keepG hgrow hc hneN hnN hgrA hgr2) (first | (go_at_call 68; refine (layHF _ _ _ (szB u) B _ hz (u64_wrap_lo _) (u64_wrap_hi _) (grown_le hgrow hBW) hown1 (len1 hx)).mono ?_; rintro e w2 ⟨b2, rfl, hown2, hbel2, hgr2⟩) | ((refine step_app (by rfl) _ _ (by rfl) B b xs _ ((HO2.out.alloc _).drew) (by rfl) _ (heap_alloc_new _ _) (by rfl) (by omega) (alloc_le hBW) ?_; intro v' w1 hown1 hgrow hgrA)))
    have HO3 : Hid _ := hown2
    have HB3 : Hid (Below B W _) := (below_grown HL.out hBW hgrow).trans hbel2
    have HG3 : Hid (Gr b W _ _) := (gr_grown hgrow hgrA).trans hgr2
    clear hown1 hown2 hbel2 hgr2 hgrA hgrow
    go_wp2
    go_ret
    refine ⟨_, rfl, ?_, HBW.out.trans HB3.out, HGW.out.trans HG3.out⟩
    rw [← keyI_neg xs i u (by omega) hu]
    exact HO3.out
end Go.Proofs.Ytfabgoanammaiaa
