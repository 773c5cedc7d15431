import Derived.Test.YtlnpeicflofkjaaDoorFrmP6
import Derived.Test.YtlnpeicflofkjaaDoorFrmR
import Derived.Test.YtlnpeicflofkjaaDoorRegS
namespace Go.Proofs.YtlnpeicflofkjaaDoor
set_option linter.unusedSimpArgs false
open Go.ChangeShapes Go.WideShapes Go.ChangeAt Go.RowKit
set_option linter.unusedVariables false
set_option maxRecDepth 100000
/-- A region ends as it should, with an act that hangs on two numbers (new blocks'), in a world of which S holds. -/
def Post4 (A : Nat → Nat → Act) (S : World → Prop) : Exit → Act → World → Prop
  | .normal, b, w' => ∃ g h, b = A g h ∧ S w'
  | _, _, _ => False
theorem Post4.here (A : Nat → Nat → Act) {S : World → Prop} (g h : Nat) {w' : World} (hS : S w') : Post4 A S .normal (A g h) w' := ⟨g, h, rfl, hS⟩
theorem wp_onceH {P : Program} {c : Code} {Q : Exit → Act → World → Prop} {a : Act} {w : World} (S : World → Prop) (h : ∃ A : Nat → Nat → Act, c.wp P (Post4 A S) a w ∧ ∀ g h w', S w' → Q .normal (A g h) w') : c.wp P Q a w := by
  obtain ⟨A, h1, h2⟩ := h
  refine Code.wp_mono ?_ h1
  intro e b w' h
  cases e <;> first | exact h.elim | (obtain ⟨g, h, rfl, h3⟩ := h; exact h2 _ _ _ h3)
/-- A frame in its box. -/
abbrev Bx (w0 : World) (n : Nat) (k l : Int) (b : ByteArray) (W : World) : Prop := BelH w0 W ∧ W.cell? ⟨n, 0, none⟩ = some (.int .i64 k) ∧ W.cell? ⟨n, 1, none⟩ = some (.int .u64 l) ∧ W.cell? ⟨n, 2, none⟩ = some (.string b)
theorem Bx.next {w0 W W' : World} {n : Nat} {k l : Int} {b : ByteArray} (hn : n < w0.heap.size) (h : Bx w0 n k l b W) (hb : Below W.heap.size W W') : Bx w0 n k l b W' :=
  have hlt : n < W.heap.size := Nat.lt_of_lt_of_le hn h.1.1.size
  ⟨h.1.next hb, (hb.cell (p := ⟨n, 0, none⟩) hlt).trans h.2.1, (hb.cell (p := ⟨n, 1, none⟩) hlt).trans h.2.2.1, (hb.cell (p := ⟨n, 2, none⟩) hlt).trans h.2.2.2⟩
theorem conv_two (W : World) (g : Nat) (x y : Int) (h0 : W.cell? ⟨g, 0, none⟩ = some (.int .u8 x)) (h1 : W.cell? ⟨g, 1, none⟩ = some (.int .u8 y)) :
    (convert 34 9 (.slice (some ⟨g, 0, none⟩) 2 2)).run Tryd.prog W = .ok (.string (strOfNums [x, y])) W :=
  run_convert_bytes_arg W 34 5 Tryd.underlying34 Tryd.underlying5 g 0 2 2 [x, y] rfl (fun i hi => by
    have : i = 0 ∨ i = 1 := by simpa using (by omega : i < 2 → i = 0 ∨ i = 1) hi
    rcases this with e | e <;> subst e <;> simpa using (by assumption)) 9 Tryd.underlying9
/-- Two bytes in a block of their own, to become the text X. -/
abbrev Cv (g : Nat) (k : Int) (X : ByteArray) (W : World) : Prop := g < W.heap.size ∧ W.cell? ⟨g, 0, none⟩ = some (.int .u8 k) ∧ W.cell? ⟨g, 1, none⟩ = some (.int .u8 0) ∧ (convert 34 9 (.slice (some ⟨g, 0, none⟩) 2 2)).run Tryd.prog W = .ok (.string X) W
theorem Cv.mk' {g : Nat} {k : Int} {X : ByteArray} {W : World} (hX : X = strOfNums [k, 0]) (hg : g < W.heap.size) (h0 : W.cell? ⟨g, 0, none⟩ = some (.int .u8 k)) (h1 : W.cell? ⟨g, 1, none⟩ = some (.int .u8 0)) : Cv g k X W := ⟨hg, h0, h1, by rw [hX]; exact conv_two W g k 0 h0 h1⟩
theorem Cv.next {g : Nat} {k : Int} {X : ByteArray} {W W' : World} (hX : X = strOfNums [k, 0]) (h : Cv g k X W) (hb : Below W.heap.size W W') : Cv g k X W' :=
  Cv.mk' hX (Nat.lt_of_lt_of_le h.1 hb.size) ((hb.cell (p := ⟨g, 0, none⟩) h.1).trans h.2.1) ((hb.cell (p := ⟨g, 1, none⟩) h.1).trans h.2.2.1)
theorem Cv.new (W : World) {k : Int} {X : ByteArray} (hX : X = strOfNums [k, 0]) : Cv W.heap.size k X (W.alloc (.cells #[.int .u8 k, .int .u8 0] 5)) := Cv.mk' hX (by simp) (by simp [go_sem]) (by simp [go_sem])
/-- A text in a block of its own. -/
abbrev Ch (g : Nat) (b : ByteArray) (W : World) : Prop := g < W.heap.size ∧ W.cell? ⟨g, 0, none⟩ = some (.string b)
theorem Ch.next {g : Nat} {b : ByteArray} {W W' : World} (h : Ch g b W) (hb : Below W.heap.size W W') : Ch g b W' := ⟨Nat.lt_of_lt_of_le h.1 hb.size, (hb.cell (p := ⟨g, 0, none⟩) h.1).trans h.2⟩
theorem Ch.new (W : World) (b : ByteArray) : Ch W.heap.size b (W.alloc (.cells #[.string b] 9)) := ⟨by simp, by simp [go_sem]⟩
theorem bel_al (W : World) (o : Obj) : Below W.heap.size W (W.alloc o) := (Below.refl _ _).alloc (Nat.le_refl _) o
theorem bel_dr (W : World) : Below W.heap.size W W.drew := (Below.refl _ _).drew
theorem may_wrap {k l n : Int} (h : mayFr k l n = true) : IntKind.u8.wrap k = k := by
  have := mayFr_kind h
  rw [IntKind.wrap_u8]
  omega
set_option maxHeartbeats 6400000 in
theorem encode_any (k l : Int) (b : ByteArray) (w : World) (hl0 : 0 ≤ l) (hl1 : l ≤ 18446744073709551615) (hz : b.size ≤ 140737488351232) (hT : HalfAt w) :
    Calls Tryd.prog 7 #[.agg #[.int .i64 k, .int .u64 l, .string b]] w fun e w' => e = .returned (.tuple #[.string (enF k l b).1, .int .i64 (enF k l b).2]) ∧ Below w.heap.size w w' := by
  have HMm : Hid (∀ W, Calls Tryd.prog 12 #[.int .i64 k, .int .u64 l, .int .i64 (b.size : Nat)] W fun e w' => e = .returned (.bool (mayFr k l (b.size : Nat))) ∧ w' = W) := fun W => mayFrame_any k l b.size W
  by_cases hm : mayFr k l (b.size : Nat) = true
  · rw [hm] at HMm
    obtain ⟨k1, k2, l1, l2, n1, n2⟩ := mayFr_kind hm
    have hk8 := may_wrap hm
    have hw32 : IntKind.u32.wrap ((b.size : Nat) : Int) = ((b.size : Nat) : Int) := by rw [IntKind.wrap_u32]; omega
    have HE0 : Hid (enF k l b = (frT k l b, 0)) := enF_yes k l b hm
    obtain ⟨X, hX⟩ : ∃ X, X = strOfNums [k, 0] := ⟨_, rfl⟩
    obtain ⟨F4, hF4⟩ : ∃ F, F = strOfNums (fxB 4 b.size) := ⟨_, rfl⟩
    obtain ⟨F8, hF8⟩ : ∃ F, F = strOfNums (fxB 8 l) := ⟨_, rfl⟩
    obtain ⟨cb, hcb⟩ : ∃ c, c = crN b.data.toList := ⟨_, rfl⟩
    have hcl : cb < 4294967296 := by rw [hcb]; exact crN_lt' _
    obtain ⟨C4, hC4⟩ : ∃ F, F = strOfNums (fxB 4 (cb : Nat)) := ⟨_, rfl⟩
    obtain ⟨T1, hT1⟩ : ∃ T, T = (⟨#[83, 70]⟩ : ByteArray) ++ X := ⟨_, rfl⟩
    obtain ⟨T2, hT2⟩ : ∃ T, T = T1 ++ F4 := ⟨_, rfl⟩
    obtain ⟨T3, hT3⟩ : ∃ T, T = T2 ++ F8 := ⟨_, rfl⟩
    obtain ⟨T4, hT4⟩ : ∃ T, T = T3 ++ C4 := ⟨_, rfl⟩
    obtain ⟨S4, hS4⟩ : ∃ T, T = smB T4 := ⟨_, rfl⟩
    obtain ⟨U, hU⟩ : ∃ T, T = T4 ++ S4 := ⟨_, rfl⟩
    obtain ⟨V, hV⟩ : ∃ T, T = U ++ b := ⟨_, rfl⟩
    have zX : X.size = 2 := by rw [hX, strOfNums_size]; rfl
    have z4 : F4.size = 4 := by rw [hF4, strOfNums_size, fxB_len]
    have z8 : F8.size = 8 := by rw [hF8, strOfNums_size, fxB_len]
    have zC : C4.size = 4 := by rw [hC4, strOfNums_size, fxB_len]
    have zS : S4.size = 4 := by rw [hS4, smB_size]
    have zT1 : T1.size = 4 := by rw [hT1, ByteArray.size_append, zX]; rfl
    have zT2 : T2.size = 8 := by rw [hT2, ByteArray.size_append, zT1, z4]
    have zT3 : T3.size = 16 := by rw [hT3, ByteArray.size_append, zT2, z8]
    have zT4 : T4.size = 20 := by rw [hT4, ByteArray.size_append, zT3, zC]
    have zU : U.size = 24 := by rw [hU, ByteArray.size_append, zT4, zS]
    have a1 : ∀ W : World, (Op.stringOp .add (⟨#[83, 70]⟩ : ByteArray) X).run Tryd.prog W = .ok (.string T1) W := fun W => by rw [hT1]; exact run_string_add_sum W _ _ (by rw [zX]; decide)
    have a2 : ∀ W : World, (Op.stringOp .add T1 F4).run Tryd.prog W = .ok (.string T2) W := fun W => by rw [hT2]; exact run_string_add_sum W _ _ (by omega)
    have a3 : ∀ W : World, (Op.stringOp .add T2 F8).run Tryd.prog W = .ok (.string T3) W := fun W => by rw [hT3]; exact run_string_add_sum W _ _ (by omega)
    have a4 : ∀ W : World, (Op.stringOp .add T3 C4).run Tryd.prog W = .ok (.string T4) W := fun W => by rw [hT4]; exact run_string_add_sum W _ _ (by omega)
    have a5 : ∀ W : World, (Op.stringOp .add T4 S4).run Tryd.prog W = .ok (.string U) W := fun W => by rw [hU]; exact run_string_add_sum W _ _ (by omega)
    have a6 : ∀ W : World, (Op.stringOp .add U b).run Tryd.prog W = .ok (.string V) W := fun W => by rw [hV]; exact run_string_add_sum W _ _ (by omega)
    have HE : Hid (enF k l b = (V, 0)) := by
      show _ = _
      rw [HE0.out, hV, hU, hS4, hT4, hT3, hT2, hT1, hX, hF4, hF8, hC4, hcb]
      rfl
    have HX : Hid (X = strOfNums [k, 0]) := hX
    have H32 : Hid (∀ W, Calls Tryd.prog 13 #[.int .u32 (b.size : Nat)] W fun e w' => e = .returned (.string F4) ∧ Below W.heap.size W w') := fun W => by rw [hF4]; exact fixed32 _ W (by omega) (by omega)
    have H64 : Hid (∀ W, Calls Tryd.prog 14 #[.int .u64 l] W fun e w' => e = .returned (.string F8) ∧ Below W.heap.size W w') := fun W => by rw [hF8]; exact fixed64 _ W (by omega) (by omega)
    have H32c : Hid (∀ W, Calls Tryd.prog 13 #[.int .u32 (cb : Nat)] W fun e w' => e = .returned (.string C4) ∧ Below W.heap.size W w') := fun W => by rw [hC4]; exact fixed32 _ W (by omega) (by omega)
    have HC : Hid (∀ h W, W.cell? ⟨h, 0, none⟩ = some (.string b) → h < W.heap.size → HalfAt W → Calls Tryd.prog 15 #[.slice (some ⟨h, 0, none⟩) 1 1] W fun e w' => e = .returned (.int .u32 (cb : Nat)) ∧ Below W.heap.size W w') := fun h W x y z => by rw [hcb]; exact checksum_at h b W (by omega) x y z
    have HSm : Hid (∀ w0 n W, n < w0.heap.size → Bx w0 n k l b W → Calls Tryd.prog 16 #[.string T4] W fun e w' => e = .returned (.string S4) ∧ Bx w0 n k l b w') := fun w0 n W hn h => by rw [hS4]; exact (sumOf_any T4 W (by omega) h.1.2).mono fun e w' ⟨he, hb⟩ => ⟨he, Bx.next hn h hb⟩
    have HBw : Hid (Below w.heap.size w (w.alloc (.cells #[.int .i64 k, .int .u64 l, .string b] 27))) := bel_al w _
    have HB0 : Hid (Bx (w.alloc (.cells #[.int .i64 k, .int .u64 l, .string b] 27)) w.heap.size k l b (w.alloc (.cells #[.int .i64 k, .int .u64 l, .string b] 27))) := ⟨BelH.start (hT.later HBw.out), by simp [go_sem], by simp [go_sem], by simp [go_sem]⟩
    have hn : w.heap.size < (w.alloc (.cells #[.int .i64 k, .int .u64 l, .string b] 27)).heap.size := by simp
    have HN : Hid (w.heap.size = w.heap.size) := rfl
    clear hX hF4 hF8 hcb hC4 hT1 hT2 hT3 hT4 hS4 hU hV HE0 zX z4 z8 zC zS zT1 zT2 zT3 zT4 zU hcl k1 k2 l1 l2 hm
    go_enter Tryd.func7, Tryd.ntmps7
    go_wp2_with fail
    refine (HMm.out _).mono ?_
    rintro e w1 ⟨rfl, rfl⟩
    go_wp2_with fail
    generalize w.alloc (.cells #[.int .i64 k, .int .u64 l, .string b] 27) = W0 at *
    have hB00 := HB0.out
    obtain ⟨n, hnn⟩ : ∃ n, n = w.heap.size := ⟨_, rfl⟩
    rw [← hnn] at hn hB00 ⊢
    clear hnn HB0
    refine wp_onceH (fun W => Bx W0 n k l b W) ?_
    apply Exists.intro
    constructor
    · (refine wp_region_held_drew (S := (fun W => Bx W0 n k l b W)) (by kernel_rfl) (Bx.next hn hB00 (bel_dr _)) (fun hHeld => ?_); simp only [List.size_toArray, List.length_cons, List.length_nil, Nat.reduceAdd, Array.replicate_succ, Array.replicate_zero, List.push_toArray, List.append_toArray, List.nil_append, List.cons_append])
      (refine tk0 (v := ?_) (by kernel_rfl) (by kernel_rfl) (by kernel_rfl) (fun _ _ _ h => h) (Or.inl ⟨by rfl, ?_⟩) (by assumption) ?_; rotate_left; (focus (intro w hSw; (try dsimp only at hSw); go_simp; (try first | (rw [dif_pos (by omega)]; simp only [Result.andThen_ok]) | rw [if_pos (by omega)]); (try with_reducible rfl); done)); try simp only [Act.put, List.setIfInBounds_toArray, List.set_cons_zero, List.set_cons_succ])
      (refine tk1 (v := ?_) (by kernel_rfl) (by kernel_rfl) (by kernel_rfl) (fun _ _ _ h => h) (Or.inl ⟨by rfl, ?_⟩) (by assumption) ?_; rotate_left; (focus (intro w hSw; (try dsimp only at hSw); go_simp; (try first | (rw [dif_pos (by omega)]; simp only [Result.andThen_ok]) | rw [if_pos (by omega)]); (try with_reducible rfl); done)); try simp only [Act.put, List.setIfInBounds_toArray, List.set_cons_zero, List.set_cons_succ])
      (refine tk2 (v := ?_) (by kernel_rfl) (by kernel_rfl) (by kernel_rfl) (fun _ _ _ h => h) (Or.inl ⟨by rfl, ?_⟩) (by assumption) ?_; rotate_left; (focus (intro w hSw; (try dsimp only at hSw); go_simp; (try first | (rw [dif_pos (by omega)]; simp only [Result.andThen_ok]) | rw [if_pos (by omega)]); (try with_reducible rfl); done)); try simp only [Act.put, List.setIfInBounds_toArray, List.set_cons_zero, List.set_cons_succ])
      (refine tk6 (v := ?_) (by kernel_rfl) (by kernel_rfl) (by kernel_rfl) (fun _ _ _ h => h) (Or.inl ⟨by rfl, ?_⟩) (by assumption) ?_; rotate_left; (focus (intro w hSw; (try dsimp only at hSw); go_simp; (try first | (rw [dif_pos (by omega)]; simp only [Result.andThen_ok]) | rw [if_pos (by omega)]); (try with_reducible rfl); done)); try simp only [Act.put, List.setIfInBounds_toArray, List.set_cons_zero, List.set_cons_succ])
      (refine tk7 (v := ?_) (by kernel_rfl) (by kernel_rfl) (by kernel_rfl) (fun _ _ _ h => h) (Or.inl ⟨by rfl, ?_⟩) (by assumption) ?_; rotate_left; (focus (intro w hSw; (try dsimp only at hSw); go_simp; (try first | (rw [dif_pos (by omega)]; simp only [Result.andThen_ok]) | rw [if_pos (by omega)]); (try with_reducible rfl); done)); try simp only [Act.put, List.setIfInBounds_toArray, List.set_cons_zero, List.set_cons_succ])
      (refine tk8 (v := ?_) (by kernel_rfl) (by kernel_rfl) (by kernel_rfl) (fun _ _ _ h => h) (Or.inl ⟨by rfl, ?_⟩) (by assumption) ?_; rotate_left; (focus (intro w hSw; (try dsimp only at hSw); go_simp; (try first | (rw [dif_pos (by omega)]; simp only [Result.andThen_ok]) | rw [if_pos (by omega)]); (try with_reducible rfl); done)); try simp only [Act.put, List.setIfInBounds_toArray, List.set_cons_zero, List.set_cons_succ])
      (refine tk9 (v := ?_) (by kernel_rfl) (by kernel_rfl) (by kernel_rfl) (fun _ _ _ h => h) (Or.inl ⟨by rfl, ?_⟩) (by assumption) ?_; rotate_left; (focus (intro w hSw; (try dsimp only at hSw); go_simp; (try first | (rw [dif_pos (by omega)]; simp only [Result.andThen_ok]) | rw [if_pos (by omega)]); (try with_reducible rfl); done)); try simp only [Act.put, List.setIfInBounds_toArray, List.set_cons_zero, List.set_cons_succ])
      (refine tk12 (v := ?_) (by kernel_rfl) (by kernel_rfl) (by kernel_rfl) (fun _ _ _ h => h) (Or.inl ⟨by rfl, ?_⟩) (by assumption) ?_; rotate_left; (focus (intro w hSw; (try dsimp only at hSw); go_simp; (try first | (rw [dif_pos (by omega)]; simp only [Result.andThen_ok]) | rw [if_pos (by omega)]); (try with_reducible rfl); done)); try simp only [Act.put, List.setIfInBounds_toArray, List.set_cons_zero, List.set_cons_succ])
      (refine tk13 (v := ?_) (by kernel_rfl) (by kernel_rfl) (by kernel_rfl) (fun _ _ _ h => h) (Or.inl ⟨by rfl, ?_⟩) (by assumption) ?_; rotate_left; (focus (intro w hSw; (try dsimp only at hSw); go_simp; (try first | (rw [dif_pos (by omega)]; simp only [Result.andThen_ok]) | rw [if_pos (by omega)]); (try with_reducible rfl); done)); try simp only [Act.put, List.setIfInBounds_toArray, List.set_cons_zero, List.set_cons_succ])
      (refine tk16 (v := ?_) (by kernel_rfl) (by kernel_rfl) (by kernel_rfl) (fun _ _ _ h => h) (Or.inl ⟨by rfl, ?_⟩) (by assumption) ?_; rotate_left; (focus (intro w hSw; (try dsimp only at hSw); go_simp; (try first | (rw [dif_pos (by omega)]; simp only [Result.andThen_ok]) | rw [if_pos (by omega)]); (try with_reducible rfl); done)); try simp only [Act.put, List.setIfInBounds_toArray, List.set_cons_zero, List.set_cons_succ])
      (refine tk17 (v := ?_) (by kernel_rfl) (by kernel_rfl) (by kernel_rfl) (fun _ _ _ h => h) (Or.inl ⟨by rfl, ?_⟩) (by assumption) ?_; rotate_left; (focus (intro w hSw; (try dsimp only at hSw); go_simp; (try first | (rw [dif_pos (by omega)]; simp only [Result.andThen_ok]) | rw [if_pos (by omega)]); (try with_reducible rfl); done)); try simp only [Act.put, List.setIfInBounds_toArray, List.set_cons_zero, List.set_cons_succ])
      (refine wpAnyH_ready (rs := [3, 10, 18]) (by kernel_rfl) (by simp) ?_; refine ar3 (fun K hK => ?_) (ar10 (fun K hK => ?_) (ar18 (fun K hK => ?_) AllReadyH.nil)) <;> go_simp)
      · have b1 : (fun W => Bx W0 n k l b W) (W0.alloc (.cells #[.int .u8 k, .int .u8 0] 5)).drew := by
          have hq : (fun W => Bx W0 n k l b W) W0 := hB00
          exact Bx.next hn hq ((bel_al W0 (.cells #[.int .u8 k, .int .u8 0] 5)).drew)
        have c1 : Cv W0.heap.size k X (W0.alloc (.cells #[.int .u8 k, .int .u8 0] 5)).drew := Cv.next HX.out (Cv.new W0 HX.out) (bel_dr _)
        generalize (W0.alloc (.cells #[.int .u8 k, .int .u8 0] 5)).drew = w21 at b1 c1 ⊢
        generalize W0.heap.size = g3 at c1 ⊢
        (refine hK.out _ _ b1 (fun hHeld => ?_); clear hK K; try simp only [Act.put, List.setIfInBounds_toArray, List.set_cons_zero, List.set_cons_succ])
        (refine wpAnyH_more (S' := (fun W => Bx W0 n k l b W ∧ Cv g3 k X W)) (fun W h => h.1) _ _ _ _ ?_; replace hHeld := (show (fun W => Bx W0 n k l b W ∧ Cv g3 k X W) w21 from ⟨b1, c1⟩))
        clear b1 c1
        (refine tk4 (v := ?_) (by kernel_rfl) (by kernel_rfl) (by kernel_rfl) (fun _ _ _ h => h) (Or.inl ⟨by rfl, ?_⟩) (by assumption) ?_; rotate_left; (focus (intro w hSw; (try dsimp only at hSw); go_simp; (try first | (rw [dif_pos (by omega)]; simp only [Result.andThen_ok]) | rw [if_pos (by omega)]); (try with_reducible rfl); done)); try simp only [Act.put, List.setIfInBounds_toArray, List.set_cons_zero, List.set_cons_succ])
        (refine tk5 (v := ?_) (by kernel_rfl) (by kernel_rfl) (by kernel_rfl) (fun _ _ _ h => h) (Or.inl ⟨by rfl, ?_⟩) (by assumption) ?_; rotate_left; (focus (intro w hSw; (try dsimp only at hSw); go_simp; (try first | (rw [dif_pos (by omega)]; simp only [Result.andThen_ok]) | rw [if_pos (by omega)]); (try with_reducible rfl); done)); try simp only [Act.put, List.setIfInBounds_toArray, List.set_cons_zero, List.set_cons_succ])
        (refine wpAnyH_ready (rs := [10, 18]) (by kernel_rfl) (by simp) ?_; refine ar10 (fun K hK => ?_) (ar18 (fun K hK => ?_) AllReadyH.nil) <;> go_simp)
        · refine (H32.out _).mono ?_
          rintro e w22 ⟨rfl, hb⟩
          have F22 : (fun W => Bx W0 n k l b W ∧ Cv g3 k X W) w22 := ⟨Bx.next hn hHeld.1 hb, Cv.next HX.out hHeld.2 hb⟩
          clear hb
          go_wp2_with fail
          (refine hK.out _ _ F22 (fun hHeld => ?_); clear hK K; try simp only [Act.put, List.setIfInBounds_toArray, List.set_cons_zero, List.set_cons_succ])
          (refine tk11 (v := ?_) (by kernel_rfl) (by kernel_rfl) (by kernel_rfl) (fun _ _ _ h => h) (Or.inl ⟨by rfl, ?_⟩) (by assumption) ?_; rotate_left; (focus (intro w hSw; (try dsimp only at hSw); go_simp; (try first | (rw [dif_pos (by omega)]; simp only [Result.andThen_ok]) | rw [if_pos (by omega)]); (try with_reducible rfl); done)); try simp only [Act.put, List.setIfInBounds_toArray, List.set_cons_zero, List.set_cons_succ])
          (refine wpAnyH_ready (rs := [14, 18]) (by kernel_rfl) (by simp) ?_; refine ar14 (fun K hK => ?_) (ar18 (fun K hK => ?_) AllReadyH.nil) <;> go_simp)
          · refine (H64.out _).mono ?_
            rintro e w23 ⟨rfl, hb⟩
            have F23 : (fun W => Bx W0 n k l b W ∧ Cv g3 k X W) w23 := ⟨Bx.next hn hHeld.1 hb, Cv.next HX.out hHeld.2 hb⟩
            clear hb
            go_wp2_with fail
            (refine hK.out _ _ F23 (fun hHeld => ?_); clear hK K; try simp only [Act.put, List.setIfInBounds_toArray, List.set_cons_zero, List.set_cons_succ])
            (refine tk15 (v := ?_) (by kernel_rfl) (by kernel_rfl) (by kernel_rfl) (fun _ _ _ h => h) (Or.inl ⟨by rfl, ?_⟩) (by assumption) ?_; rotate_left; (focus (intro w hSw; (try dsimp only at hSw); go_simp; (try first | (rw [dif_pos (by omega)]; simp only [Result.andThen_ok]) | rw [if_pos (by omega)]); (try with_reducible rfl); done)); try simp only [Act.put, List.setIfInBounds_toArray, List.set_cons_zero, List.set_cons_succ])
            (refine wpAnyH_ready (rs := [18]) (by kernel_rfl) (by simp) ?_; refine ar18 (fun K hK => ?_) AllReadyH.nil; go_simp)
            have b1 : (fun W => Bx W0 n k l b W ∧ Cv g3 k X W) (w23.alloc (.cells #[.string b] 9)) := by
              have hq : (fun W => Bx W0 n k l b W ∧ Cv g3 k X W) w23 := hHeld
              exact ⟨Bx.next hn hq.1 (bel_al w23 (.cells #[.string b] 9)), Cv.next HX.out hq.2 (bel_al w23 (.cells #[.string b] 9))⟩
            have c1 : Ch w23.heap.size b (w23.alloc (.cells #[.string b] 9)) := Ch.new w23 b
            generalize (w23.alloc (.cells #[.string b] 9)) = w24 at b1 c1 ⊢
            generalize w23.heap.size = g18 at c1 ⊢
            (refine hK.out _ _ b1 (fun hHeld => ?_); clear hK K; try simp only [Act.put, List.setIfInBounds_toArray, List.set_cons_zero, List.set_cons_succ])
            (refine wpAnyH_more (S' := (fun W => Bx W0 n k l b W ∧ Cv g3 k X W ∧ Ch g18 b W)) (fun W h => ⟨h.1, h.2.1⟩) _ _ _ _ ?_; replace hHeld := (show (fun W => Bx W0 n k l b W ∧ Cv g3 k X W ∧ Ch g18 b W) w24 from ⟨b1.1, b1.2, c1⟩))
            clear b1 c1
            (refine wpAnyH_ready (rs := [19]) (by kernel_rfl) (by simp) ?_; refine ar19 (fun K hK => ?_) AllReadyH.nil; go_simp)
            refine (HC.out g18 _ hHeld.2.2.2 hHeld.2.2.1 hHeld.1.1.2).mono ?_
            rintro e w25 ⟨rfl, hb⟩
            have F25 : (fun W => Bx W0 n k l b W ∧ Cv g3 k X W ∧ Ch g18 b W) w25 := ⟨Bx.next hn hHeld.1 hb, Cv.next HX.out hHeld.2.1 hb, Ch.next hHeld.2.2 hb⟩
            clear hb
            go_wp2_with fail
            (refine hK.out _ _ F25 (fun hHeld => ?_); clear hK K; try simp only [Act.put, List.setIfInBounds_toArray, List.set_cons_zero, List.set_cons_succ])
            (refine wpAnyH_ready (rs := [20]) (by kernel_rfl) (by simp) ?_; refine ar20 (fun K hK => ?_) AllReadyH.nil; go_simp)
            refine (H32c.out _).mono ?_
            rintro e w26 ⟨rfl, hb⟩
            have F26 : (fun W => Bx W0 n k l b W ∧ Cv g3 k X W ∧ Ch g18 b W) w26 := ⟨Bx.next hn hHeld.1 hb, Cv.next HX.out hHeld.2.1 hb, Ch.next hHeld.2.2 hb⟩
            clear hb
            go_wp2_with fail
            (refine hK.out _ _ F26 (fun hHeld => ?_); clear hK K; try simp only [Act.put, List.setIfInBounds_toArray, List.set_cons_zero, List.set_cons_succ])
            (refine tk21 (v := ?_) (by kernel_rfl) (by kernel_rfl) (by kernel_rfl) (fun _ _ _ h => h) (Or.inl ⟨by rfl, ?_⟩) (by assumption) ?_; rotate_left; (focus (intro w hSw; (try dsimp only at hSw); go_simp; (try first | (rw [dif_pos (by omega)]; simp only [Result.andThen_ok]) | rw [if_pos (by omega)]); (try with_reducible rfl); done)); try simp only [Act.put, List.setIfInBounds_toArray, List.set_cons_zero, List.set_cons_succ])
            (refine tk22 (v := ?_) (by kernel_rfl) (by kernel_rfl) (by kernel_rfl) (fun _ _ _ h => h) (Or.inl ⟨by rfl, ?_⟩) (by assumption) ?_; rotate_left; (focus (intro w hSw; (try dsimp only at hSw); go_simp; (try first | (rw [dif_pos (by omega)]; simp only [Result.andThen_ok]) | rw [if_pos (by omega)]); (try with_reducible rfl); done)); try simp only [Act.put, List.setIfInBounds_toArray, List.set_cons_zero, List.set_cons_succ])
            refine wpAnyH_done (by kernel_rfl) ?_ _
            exact Post4.here _ g3 g18 hHeld.1
          · have b1 : (fun W => Bx W0 n k l b W ∧ Cv g3 k X W) (w22.alloc (.cells #[.string b] 9)) := by
              have hq : (fun W => Bx W0 n k l b W ∧ Cv g3 k X W) w22 := hHeld
              exact ⟨Bx.next hn hq.1 (bel_al w22 (.cells #[.string b] 9)), Cv.next HX.out hq.2 (bel_al w22 (.cells #[.string b] 9))⟩
            have c1 : Ch w22.heap.size b (w22.alloc (.cells #[.string b] 9)) := Ch.new w22 b
            generalize (w22.alloc (.cells #[.string b] 9)) = w27 at b1 c1 ⊢
            generalize w22.heap.size = g18 at c1 ⊢
            (refine hK.out _ _ b1 (fun hHeld => ?_); clear hK K; try simp only [Act.put, List.setIfInBounds_toArray, List.set_cons_zero, List.set_cons_succ])
            (refine wpAnyH_more (S' := (fun W => Bx W0 n k l b W ∧ Cv g3 k X W ∧ Ch g18 b W)) (fun W h => ⟨h.1, h.2.1⟩) _ _ _ _ ?_; replace hHeld := (show (fun W => Bx W0 n k l b W ∧ Cv g3 k X W ∧ Ch g18 b W) w27 from ⟨b1.1, b1.2, c1⟩))
            clear b1 c1
            (refine wpAnyH_ready (rs := [14]) (by kernel_rfl) (by simp) ?_; refine ar14 (fun K hK => ?_) AllReadyH.nil; go_simp)
            refine (H64.out _).mono ?_
            rintro e w28 ⟨rfl, hb⟩
            have F28 : (fun W => Bx W0 n k l b W ∧ Cv g3 k X W ∧ Ch g18 b W) w28 := ⟨Bx.next hn hHeld.1 hb, Cv.next HX.out hHeld.2.1 hb, Ch.next hHeld.2.2 hb⟩
            clear hb
            go_wp2_with fail
            (refine hK.out _ _ F28 (fun hHeld => ?_); clear hK K; try simp only [Act.put, List.setIfInBounds_toArray, List.set_cons_zero, List.set_cons_succ])
            (refine tk15 (v := ?_) (by kernel_rfl) (by kernel_rfl) (by kernel_rfl) (fun _ _ _ h => h) (Or.inl ⟨by rfl, ?_⟩) (by assumption) ?_; rotate_left; (focus (intro w hSw; (try dsimp only at hSw); go_simp; (try first | (rw [dif_pos (by omega)]; simp only [Result.andThen_ok]) | rw [if_pos (by omega)]); (try with_reducible rfl); done)); try simp only [Act.put, List.setIfInBounds_toArray, List.set_cons_zero, List.set_cons_succ])
            (refine wpAnyH_ready (rs := [19]) (by kernel_rfl) (by simp) ?_; refine ar19 (fun K hK => ?_) AllReadyH.nil; go_simp)
            refine (HC.out g18 _ hHeld.2.2.2 hHeld.2.2.1 hHeld.1.1.2).mono ?_
            rintro e w29 ⟨rfl, hb⟩
            have F29 : (fun W => Bx W0 n k l b W ∧ Cv g3 k X W ∧ Ch g18 b W) w29 := ⟨Bx.next hn hHeld.1 hb, Cv.next HX.out hHeld.2.1 hb, Ch.next hHeld.2.2 hb⟩
            clear hb
            go_wp2_with fail
            (refine hK.out _ _ F29 (fun hHeld => ?_); clear hK K; try simp only [Act.put, List.setIfInBounds_toArray, List.set_cons_zero, List.set_cons_succ])
            (refine wpAnyH_ready (rs := [20]) (by kernel_rfl) (by simp) ?_; refine ar20 (fun K hK => ?_) AllReadyH.nil; go_simp)
            refine (H32c.out _).mono ?_
            rintro e w30 ⟨rfl, hb⟩
            have F30 : (fun W => Bx W0 n k l b W ∧ Cv g3 k X W ∧ Ch g18 b W) w30 := ⟨Bx.next hn hHeld.1 hb, Cv.next HX.out hHeld.2.1 hb, Ch.next hHeld.2.2 hb⟩
            clear hb
            go_wp2_with fail
            (refine hK.out _ _ F30 (fun hHeld => ?_); clear hK K; try simp only [Act.put, List.setIfInBounds_toArray, List.set_cons_zero, List.set_cons_succ])
            (refine tk21 (v := ?_) (by kernel_rfl) (by kernel_rfl) (by kernel_rfl) (fun _ _ _ h => h) (Or.inl ⟨by rfl, ?_⟩) (by assumption) ?_; rotate_left; (focus (intro w hSw; (try dsimp only at hSw); go_simp; (try first | (rw [dif_pos (by omega)]; simp only [Result.andThen_ok]) | rw [if_pos (by omega)]); (try with_reducible rfl); done)); try simp only [Act.put, List.setIfInBounds_toArray, List.set_cons_zero, List.set_cons_succ])
            (refine tk22 (v := ?_) (by kernel_rfl) (by kernel_rfl) (by kernel_rfl) (fun _ _ _ h => h) (Or.inl ⟨by rfl, ?_⟩) (by assumption) ?_; rotate_left; (focus (intro w hSw; (try dsimp only at hSw); go_simp; (try first | (rw [dif_pos (by omega)]; simp only [Result.andThen_ok]) | rw [if_pos (by omega)]); (try with_reducible rfl); done)); try simp only [Act.put, List.setIfInBounds_toArray, List.set_cons_zero, List.set_cons_succ])
            refine wpAnyH_done (by kernel_rfl) ?_ _
            exact Post4.here _ g3 g18 hHeld.1
        · have b1 : (fun W => Bx W0 n k l b W ∧ Cv g3 k X W) (w21.alloc (.cells #[.string b] 9)) := by
            have hq : (fun W => Bx W0 n k l b W ∧ Cv g3 k X W) w21 := hHeld
            exact ⟨Bx.next hn hq.1 (bel_al w21 (.cells #[.string b] 9)), Cv.next HX.out hq.2 (bel_al w21 (.cells #[.string b] 9))⟩
          have c1 : Ch w21.heap.size b (w21.alloc (.cells #[.string b] 9)) := Ch.new w21 b
          generalize (w21.alloc (.cells #[.string b] 9)) = w31 at b1 c1 ⊢
          generalize w21.heap.size = g18 at c1 ⊢
          (refine hK.out _ _ b1 (fun hHeld => ?_); clear hK K; try simp only [Act.put, List.setIfInBounds_toArray, List.set_cons_zero, List.set_cons_succ])
          (refine wpAnyH_more (S' := (fun W => Bx W0 n k l b W ∧ Cv g3 k X W ∧ Ch g18 b W)) (fun W h => ⟨h.1, h.2.1⟩) _ _ _ _ ?_; replace hHeld := (show (fun W => Bx W0 n k l b W ∧ Cv g3 k X W ∧ Ch g18 b W) w31 from ⟨b1.1, b1.2, c1⟩))
          clear b1 c1
          (refine wpAnyH_ready (rs := [10]) (by kernel_rfl) (by simp) ?_; refine ar10 (fun K hK => ?_) AllReadyH.nil; go_simp)
          refine (H32.out _).mono ?_
          rintro e w32 ⟨rfl, hb⟩
          have F32 : (fun W => Bx W0 n k l b W ∧ Cv g3 k X W ∧ Ch g18 b W) w32 := ⟨Bx.next hn hHeld.1 hb, Cv.next HX.out hHeld.2.1 hb, Ch.next hHeld.2.2 hb⟩
          clear hb
          go_wp2_with fail
          (refine hK.out _ _ F32 (fun hHeld => ?_); clear hK K; try simp only [Act.put, List.setIfInBounds_toArray, List.set_cons_zero, List.set_cons_succ])
          (refine tk11 (v := ?_) (by kernel_rfl) (by kernel_rfl) (by kernel_rfl) (fun _ _ _ h => h) (Or.inl ⟨by rfl, ?_⟩) (by assumption) ?_; rotate_left; (focus (intro w hSw; (try dsimp only at hSw); go_simp; (try first | (rw [dif_pos (by omega)]; simp only [Result.andThen_ok]) | rw [if_pos (by omega)]); (try with_reducible rfl); done)); try simp only [Act.put, List.setIfInBounds_toArray, List.set_cons_zero, List.set_cons_succ])
          (refine wpAnyH_ready (rs := [14]) (by kernel_rfl) (by simp) ?_; refine ar14 (fun K hK => ?_) AllReadyH.nil; go_simp)
          refine (H64.out _).mono ?_
          rintro e w33 ⟨rfl, hb⟩
          have F33 : (fun W => Bx W0 n k l b W ∧ Cv g3 k X W ∧ Ch g18 b W) w33 := ⟨Bx.next hn hHeld.1 hb, Cv.next HX.out hHeld.2.1 hb, Ch.next hHeld.2.2 hb⟩
          clear hb
          go_wp2_with fail
          (refine hK.out _ _ F33 (fun hHeld => ?_); clear hK K; try simp only [Act.put, List.setIfInBounds_toArray, List.set_cons_zero, List.set_cons_succ])
          (refine tk15 (v := ?_) (by kernel_rfl) (by kernel_rfl) (by kernel_rfl) (fun _ _ _ h => h) (Or.inl ⟨by rfl, ?_⟩) (by assumption) ?_; rotate_left; (focus (intro w hSw; (try dsimp only at hSw); go_simp; (try first | (rw [dif_pos (by omega)]; simp only [Result.andThen_ok]) | rw [if_pos (by omega)]); (try with_reducible rfl); done)); try simp only [Act.put, List.setIfInBounds_toArray, List.set_cons_zero, List.set_cons_succ])
          (refine wpAnyH_ready (rs := [19]) (by kernel_rfl) (by simp) ?_; refine ar19 (fun K hK => ?_) AllReadyH.nil; go_simp)
          refine (HC.out g18 _ hHeld.2.2.2 hHeld.2.2.1 hHeld.1.1.2).mono ?_
          rintro e w34 ⟨rfl, hb⟩
          have F34 : (fun W => Bx W0 n k l b W ∧ Cv g3 k X W ∧ Ch g18 b W) w34 := ⟨Bx.next hn hHeld.1 hb, Cv.next HX.out hHeld.2.1 hb, Ch.next hHeld.2.2 hb⟩
          clear hb
          go_wp2_with fail
          (refine hK.out _ _ F34 (fun hHeld => ?_); clear hK K; try simp only [Act.put, List.setIfInBounds_toArray, List.set_cons_zero, List.set_cons_succ])
          (refine wpAnyH_ready (rs := [20]) (by kernel_rfl) (by simp) ?_; refine ar20 (fun K hK => ?_) AllReadyH.nil; go_simp)
          refine (H32c.out _).mono ?_
          rintro e w35 ⟨rfl, hb⟩
          have F35 : (fun W => Bx W0 n k l b W ∧ Cv g3 k X W ∧ Ch g18 b W) w35 := ⟨Bx.next hn hHeld.1 hb, Cv.next HX.out hHeld.2.1 hb, Ch.next hHeld.2.2 hb⟩
          clear hb
          go_wp2_with fail
          (refine hK.out _ _ F35 (fun hHeld => ?_); clear hK K; try simp only [Act.put, List.setIfInBounds_toArray, List.set_cons_zero, List.set_cons_succ])
          (refine tk21 (v := ?_) (by kernel_rfl) (by kernel_rfl) (by kernel_rfl) (fun _ _ _ h => h) (Or.inl ⟨by rfl, ?_⟩) (by assumption) ?_; rotate_left; (focus (intro w hSw; (try dsimp only at hSw); go_simp; (try first | (rw [dif_pos (by omega)]; simp only [Result.andThen_ok]) | rw [if_pos (by omega)]); (try with_reducible rfl); done)); try simp only [Act.put, List.setIfInBounds_toArray, List.set_cons_zero, List.set_cons_succ])
          (refine tk22 (v := ?_) (by kernel_rfl) (by kernel_rfl) (by kernel_rfl) (fun _ _ _ h => h) (Or.inl ⟨by rfl, ?_⟩) (by assumption) ?_; rotate_left; (focus (intro w hSw; (try dsimp only at hSw); go_simp; (try first | (rw [dif_pos (by omega)]; simp only [Result.andThen_ok]) | rw [if_pos (by omega)]); (try with_reducible rfl); done)); try simp only [Act.put, List.setIfInBounds_toArray, List.set_cons_zero, List.set_cons_succ])
          refine wpAnyH_done (by kernel_rfl) ?_ _
          exact Post4.here _ g3 g18 hHeld.1
      · refine (H32.out _).mono ?_
        rintro e w36 ⟨rfl, hb⟩
        have F36 : (fun W => Bx W0 n k l b W) w36 := Bx.next hn hHeld hb
        clear hb
        go_wp2_with fail
        (refine hK.out _ _ F36 (fun hHeld => ?_); clear hK K; try simp only [Act.put, List.setIfInBounds_toArray, List.set_cons_zero, List.set_cons_succ])
        (refine wpAnyH_ready (rs := [3, 14, 18]) (by kernel_rfl) (by simp) ?_; refine ar3 (fun K hK => ?_) (ar14 (fun K hK => ?_) (ar18 (fun K hK => ?_) AllReadyH.nil)) <;> go_simp)
        · have b1 : (fun W => Bx W0 n k l b W) (w36.alloc (.cells #[.int .u8 k, .int .u8 0] 5)) := by
            have hq : (fun W => Bx W0 n k l b W) w36 := hHeld
            exact Bx.next hn hq (bel_al w36 (.cells #[.int .u8 k, .int .u8 0] 5))
          have c1 : Cv w36.heap.size k X (w36.alloc (.cells #[.int .u8 k, .int .u8 0] 5)) := Cv.new w36 HX.out
          generalize (w36.alloc (.cells #[.int .u8 k, .int .u8 0] 5)) = w37 at b1 c1 ⊢
          generalize w36.heap.size = g3 at c1 ⊢
          (refine hK.out _ _ b1 (fun hHeld => ?_); clear hK K; try simp only [Act.put, List.setIfInBounds_toArray, List.set_cons_zero, List.set_cons_succ])
          (refine wpAnyH_more (S' := (fun W => Bx W0 n k l b W ∧ Cv g3 k X W)) (fun W h => h.1) _ _ _ _ ?_; replace hHeld := (show (fun W => Bx W0 n k l b W ∧ Cv g3 k X W) w37 from ⟨b1, c1⟩))
          clear b1 c1
          (refine tk4 (v := ?_) (by kernel_rfl) (by kernel_rfl) (by kernel_rfl) (fun _ _ _ h => h) (Or.inl ⟨by rfl, ?_⟩) (by assumption) ?_; rotate_left; (focus (intro w hSw; (try dsimp only at hSw); go_simp; (try first | (rw [dif_pos (by omega)]; simp only [Result.andThen_ok]) | rw [if_pos (by omega)]); (try with_reducible rfl); done)); try simp only [Act.put, List.setIfInBounds_toArray, List.set_cons_zero, List.set_cons_succ])
          (refine tk5 (v := ?_) (by kernel_rfl) (by kernel_rfl) (by kernel_rfl) (fun _ _ _ h => h) (Or.inl ⟨by rfl, ?_⟩) (by assumption) ?_; rotate_left; (focus (intro w hSw; (try dsimp only at hSw); go_simp; (try first | (rw [dif_pos (by omega)]; simp only [Result.andThen_ok]) | rw [if_pos (by omega)]); (try with_reducible rfl); done)); try simp only [Act.put, List.setIfInBounds_toArray, List.set_cons_zero, List.set_cons_succ])
          (refine tk11 (v := ?_) (by kernel_rfl) (by kernel_rfl) (by kernel_rfl) (fun _ _ _ h => h) (Or.inl ⟨by rfl, ?_⟩) (by assumption) ?_; rotate_left; (focus (intro w hSw; (try dsimp only at hSw); go_simp; (try first | (rw [dif_pos (by omega)]; simp only [Result.andThen_ok]) | rw [if_pos (by omega)]); (try with_reducible rfl); done)); try simp only [Act.put, List.setIfInBounds_toArray, List.set_cons_zero, List.set_cons_succ])
          (refine wpAnyH_ready (rs := [14, 18]) (by kernel_rfl) (by simp) ?_; refine ar14 (fun K hK => ?_) (ar18 (fun K hK => ?_) AllReadyH.nil) <;> go_simp)
          · refine (H64.out _).mono ?_
            rintro e w38 ⟨rfl, hb⟩
            have F38 : (fun W => Bx W0 n k l b W ∧ Cv g3 k X W) w38 := ⟨Bx.next hn hHeld.1 hb, Cv.next HX.out hHeld.2 hb⟩
            clear hb
            go_wp2_with fail
            (refine hK.out _ _ F38 (fun hHeld => ?_); clear hK K; try simp only [Act.put, List.setIfInBounds_toArray, List.set_cons_zero, List.set_cons_succ])
            (refine tk15 (v := ?_) (by kernel_rfl) (by kernel_rfl) (by kernel_rfl) (fun _ _ _ h => h) (Or.inl ⟨by rfl, ?_⟩) (by assumption) ?_; rotate_left; (focus (intro w hSw; (try dsimp only at hSw); go_simp; (try first | (rw [dif_pos (by omega)]; simp only [Result.andThen_ok]) | rw [if_pos (by omega)]); (try with_reducible rfl); done)); try simp only [Act.put, List.setIfInBounds_toArray, List.set_cons_zero, List.set_cons_succ])
            (refine wpAnyH_ready (rs := [18]) (by kernel_rfl) (by simp) ?_; refine ar18 (fun K hK => ?_) AllReadyH.nil; go_simp)
            have b1 : (fun W => Bx W0 n k l b W ∧ Cv g3 k X W) (w38.alloc (.cells #[.string b] 9)) := by
              have hq : (fun W => Bx W0 n k l b W ∧ Cv g3 k X W) w38 := hHeld
              exact ⟨Bx.next hn hq.1 (bel_al w38 (.cells #[.string b] 9)), Cv.next HX.out hq.2 (bel_al w38 (.cells #[.string b] 9))⟩
            have c1 : Ch w38.heap.size b (w38.alloc (.cells #[.string b] 9)) := Ch.new w38 b
            generalize (w38.alloc (.cells #[.string b] 9)) = w39 at b1 c1 ⊢
            generalize w38.heap.size = g18 at c1 ⊢
            (refine hK.out _ _ b1 (fun hHeld => ?_); clear hK K; try simp only [Act.put, List.setIfInBounds_toArray, List.set_cons_zero, List.set_cons_succ])
            (refine wpAnyH_more (S' := (fun W => Bx W0 n k l b W ∧ Cv g3 k X W ∧ Ch g18 b W)) (fun W h => ⟨h.1, h.2.1⟩) _ _ _ _ ?_; replace hHeld := (show (fun W => Bx W0 n k l b W ∧ Cv g3 k X W ∧ Ch g18 b W) w39 from ⟨b1.1, b1.2, c1⟩))
            clear b1 c1
            (refine wpAnyH_ready (rs := [19]) (by kernel_rfl) (by simp) ?_; refine ar19 (fun K hK => ?_) AllReadyH.nil; go_simp)
            refine (HC.out g18 _ hHeld.2.2.2 hHeld.2.2.1 hHeld.1.1.2).mono ?_
            rintro e w40 ⟨rfl, hb⟩
            have F40 : (fun W => Bx W0 n k l b W ∧ Cv g3 k X W ∧ Ch g18 b W) w40 := ⟨Bx.next hn hHeld.1 hb, Cv.next HX.out hHeld.2.1 hb, Ch.next hHeld.2.2 hb⟩
            clear hb
            go_wp2_with fail
            (refine hK.out _ _ F40 (fun hHeld => ?_); clear hK K; try simp only [Act.put, List.setIfInBounds_toArray, List.set_cons_zero, List.set_cons_succ])
            (refine wpAnyH_ready (rs := [20]) (by kernel_rfl) (by simp) ?_; refine ar20 (fun K hK => ?_) AllReadyH.nil; go_simp)
            refine (H32c.out _).mono ?_
            rintro e w41 ⟨rfl, hb⟩
            have F41 : (fun W => Bx W0 n k l b W ∧ Cv g3 k X W ∧ Ch g18 b W) w41 := ⟨Bx.next hn hHeld.1 hb, Cv.next HX.out hHeld.2.1 hb, Ch.next hHeld.2.2 hb⟩
            clear hb
            go_wp2_with fail
            (refine hK.out _ _ F41 (fun hHeld => ?_); clear hK K; try simp only [Act.put, List.setIfInBounds_toArray, List.set_cons_zero, List.set_cons_succ])
            (refine tk21 (v := ?_) (by kernel_rfl) (by kernel_rfl) (by kernel_rfl) (fun _ _ _ h => h) (Or.inl ⟨by rfl, ?_⟩) (by assumption) ?_; rotate_left; (focus (intro w hSw; (try dsimp only at hSw); go_simp; (try first | (rw [dif_pos (by omega)]; simp only [Result.andThen_ok]) | rw [if_pos (by omega)]); (try with_reducible rfl); done)); try simp only [Act.put, List.setIfInBounds_toArray, List.set_cons_zero, List.set_cons_succ])
            (refine tk22 (v := ?_) (by kernel_rfl) (by kernel_rfl) (by kernel_rfl) (fun _ _ _ h => h) (Or.inl ⟨by rfl, ?_⟩) (by assumption) ?_; rotate_left; (focus (intro w hSw; (try dsimp only at hSw); go_simp; (try first | (rw [dif_pos (by omega)]; simp only [Result.andThen_ok]) | rw [if_pos (by omega)]); (try with_reducible rfl); done)); try simp only [Act.put, List.setIfInBounds_toArray, List.set_cons_zero, List.set_cons_succ])
            refine wpAnyH_done (by kernel_rfl) ?_ _
            exact Post4.here _ g3 g18 hHeld.1
          · have b1 : (fun W => Bx W0 n k l b W ∧ Cv g3 k X W) (w37.alloc (.cells #[.string b] 9)) := by
              have hq : (fun W => Bx W0 n k l b W ∧ Cv g3 k X W) w37 := hHeld
              exact ⟨Bx.next hn hq.1 (bel_al w37 (.cells #[.string b] 9)), Cv.next HX.out hq.2 (bel_al w37 (.cells #[.string b] 9))⟩
            have c1 : Ch w37.heap.size b (w37.alloc (.cells #[.string b] 9)) := Ch.new w37 b
            generalize (w37.alloc (.cells #[.string b] 9)) = w42 at b1 c1 ⊢
            generalize w37.heap.size = g18 at c1 ⊢
            (refine hK.out _ _ b1 (fun hHeld => ?_); clear hK K; try simp only [Act.put, List.setIfInBounds_toArray, List.set_cons_zero, List.set_cons_succ])
            (refine wpAnyH_more (S' := (fun W => Bx W0 n k l b W ∧ Cv g3 k X W ∧ Ch g18 b W)) (fun W h => ⟨h.1, h.2.1⟩) _ _ _ _ ?_; replace hHeld := (show (fun W => Bx W0 n k l b W ∧ Cv g3 k X W ∧ Ch g18 b W) w42 from ⟨b1.1, b1.2, c1⟩))
            clear b1 c1
            (refine wpAnyH_ready (rs := [14]) (by kernel_rfl) (by simp) ?_; refine ar14 (fun K hK => ?_) AllReadyH.nil; go_simp)
            refine (H64.out _).mono ?_
            rintro e w43 ⟨rfl, hb⟩
            have F43 : (fun W => Bx W0 n k l b W ∧ Cv g3 k X W ∧ Ch g18 b W) w43 := ⟨Bx.next hn hHeld.1 hb, Cv.next HX.out hHeld.2.1 hb, Ch.next hHeld.2.2 hb⟩
            clear hb
            go_wp2_with fail
            (refine hK.out _ _ F43 (fun hHeld => ?_); clear hK K; try simp only [Act.put, List.setIfInBounds_toArray, List.set_cons_zero, List.set_cons_succ])
            (refine tk15 (v := ?_) (by kernel_rfl) (by kernel_rfl) (by kernel_rfl) (fun _ _ _ h => h) (Or.inl ⟨by rfl, ?_⟩) (by assumption) ?_; rotate_left; (focus (intro w hSw; (try dsimp only at hSw); go_simp; (try first | (rw [dif_pos (by omega)]; simp only [Result.andThen_ok]) | rw [if_pos (by omega)]); (try with_reducible rfl); done)); try simp only [Act.put, List.setIfInBounds_toArray, List.set_cons_zero, List.set_cons_succ])
            (refine wpAnyH_ready (rs := [19]) (by kernel_rfl) (by simp) ?_; refine ar19 (fun K hK => ?_) AllReadyH.nil; go_simp)
            refine (HC.out g18 _ hHeld.2.2.2 hHeld.2.2.1 hHeld.1.1.2).mono ?_
            rintro e w44 ⟨rfl, hb⟩
            have F44 : (fun W => Bx W0 n k l b W ∧ Cv g3 k X W ∧ Ch g18 b W) w44 := ⟨Bx.next hn hHeld.1 hb, Cv.next HX.out hHeld.2.1 hb, Ch.next hHeld.2.2 hb⟩
            clear hb
            go_wp2_with fail
            (refine hK.out _ _ F44 (fun hHeld => ?_); clear hK K; try simp only [Act.put, List.setIfInBounds_toArray, List.set_cons_zero, List.set_cons_succ])
            (refine wpAnyH_ready (rs := [20]) (by kernel_rfl) (by simp) ?_; refine ar20 (fun K hK => ?_) AllReadyH.nil; go_simp)
            refine (H32c.out _).mono ?_
            rintro e w45 ⟨rfl, hb⟩
            have F45 : (fun W => Bx W0 n k l b W ∧ Cv g3 k X W ∧ Ch g18 b W) w45 := ⟨Bx.next hn hHeld.1 hb, Cv.next HX.out hHeld.2.1 hb, Ch.next hHeld.2.2 hb⟩
            clear hb
            go_wp2_with fail
            (refine hK.out _ _ F45 (fun hHeld => ?_); clear hK K; try simp only [Act.put, List.setIfInBounds_toArray, List.set_cons_zero, List.set_cons_succ])
            (refine tk21 (v := ?_) (by kernel_rfl) (by kernel_rfl) (by kernel_rfl) (fun _ _ _ h => h) (Or.inl ⟨by rfl, ?_⟩) (by assumption) ?_; rotate_left; (focus (intro w hSw; (try dsimp only at hSw); go_simp; (try first | (rw [dif_pos (by omega)]; simp only [Result.andThen_ok]) | rw [if_pos (by omega)]); (try with_reducible rfl); done)); try simp only [Act.put, List.setIfInBounds_toArray, List.set_cons_zero, List.set_cons_succ])
            (refine tk22 (v := ?_) (by kernel_rfl) (by kernel_rfl) (by kernel_rfl) (fun _ _ _ h => h) (Or.inl ⟨by rfl, ?_⟩) (by assumption) ?_; rotate_left; (focus (intro w hSw; (try dsimp only at hSw); go_simp; (try first | (rw [dif_pos (by omega)]; simp only [Result.andThen_ok]) | rw [if_pos (by omega)]); (try with_reducible rfl); done)); try simp only [Act.put, List.setIfInBounds_toArray, List.set_cons_zero, List.set_cons_succ])
            refine wpAnyH_done (by kernel_rfl) ?_ _
            exact Post4.here _ g3 g18 hHeld.1
        · refine (H64.out _).mono ?_
          rintro e w46 ⟨rfl, hb⟩
          have F46 : (fun W => Bx W0 n k l b W) w46 := Bx.next hn hHeld hb
          clear hb
          go_wp2_with fail
          (refine hK.out _ _ F46 (fun hHeld => ?_); clear hK K; try simp only [Act.put, List.setIfInBounds_toArray, List.set_cons_zero, List.set_cons_succ])
          (refine wpAnyH_ready (rs := [3, 18]) (by kernel_rfl) (by simp) ?_; refine ar3 (fun K hK => ?_) (ar18 (fun K hK => ?_) AllReadyH.nil) <;> go_simp)
          · have b1 : (fun W => Bx W0 n k l b W) (w46.alloc (.cells #[.int .u8 k, .int .u8 0] 5)) := by
              have hq : (fun W => Bx W0 n k l b W) w46 := hHeld
              exact Bx.next hn hq (bel_al w46 (.cells #[.int .u8 k, .int .u8 0] 5))
            have c1 : Cv w46.heap.size k X (w46.alloc (.cells #[.int .u8 k, .int .u8 0] 5)) := Cv.new w46 HX.out
            generalize (w46.alloc (.cells #[.int .u8 k, .int .u8 0] 5)) = w47 at b1 c1 ⊢
            generalize w46.heap.size = g3 at c1 ⊢
            (refine hK.out _ _ b1 (fun hHeld => ?_); clear hK K; try simp only [Act.put, List.setIfInBounds_toArray, List.set_cons_zero, List.set_cons_succ])
            (refine wpAnyH_more (S' := (fun W => Bx W0 n k l b W ∧ Cv g3 k X W)) (fun W h => h.1) _ _ _ _ ?_; replace hHeld := (show (fun W => Bx W0 n k l b W ∧ Cv g3 k X W) w47 from ⟨b1, c1⟩))
            clear b1 c1
            (refine tk4 (v := ?_) (by kernel_rfl) (by kernel_rfl) (by kernel_rfl) (fun _ _ _ h => h) (Or.inl ⟨by rfl, ?_⟩) (by assumption) ?_; rotate_left; (focus (intro w hSw; (try dsimp only at hSw); go_simp; (try first | (rw [dif_pos (by omega)]; simp only [Result.andThen_ok]) | rw [if_pos (by omega)]); (try with_reducible rfl); done)); try simp only [Act.put, List.setIfInBounds_toArray, List.set_cons_zero, List.set_cons_succ])
            (refine tk5 (v := ?_) (by kernel_rfl) (by kernel_rfl) (by kernel_rfl) (fun _ _ _ h => h) (Or.inl ⟨by rfl, ?_⟩) (by assumption) ?_; rotate_left; (focus (intro w hSw; (try dsimp only at hSw); go_simp; (try first | (rw [dif_pos (by omega)]; simp only [Result.andThen_ok]) | rw [if_pos (by omega)]); (try with_reducible rfl); done)); try simp only [Act.put, List.setIfInBounds_toArray, List.set_cons_zero, List.set_cons_succ])
            (refine tk11 (v := ?_) (by kernel_rfl) (by kernel_rfl) (by kernel_rfl) (fun _ _ _ h => h) (Or.inl ⟨by rfl, ?_⟩) (by assumption) ?_; rotate_left; (focus (intro w hSw; (try dsimp only at hSw); go_simp; (try first | (rw [dif_pos (by omega)]; simp only [Result.andThen_ok]) | rw [if_pos (by omega)]); (try with_reducible rfl); done)); try simp only [Act.put, List.setIfInBounds_toArray, List.set_cons_zero, List.set_cons_succ])
            (refine tk15 (v := ?_) (by kernel_rfl) (by kernel_rfl) (by kernel_rfl) (fun _ _ _ h => h) (Or.inl ⟨by rfl, ?_⟩) (by assumption) ?_; rotate_left; (focus (intro w hSw; (try dsimp only at hSw); go_simp; (try first | (rw [dif_pos (by omega)]; simp only [Result.andThen_ok]) | rw [if_pos (by omega)]); (try with_reducible rfl); done)); try simp only [Act.put, List.setIfInBounds_toArray, List.set_cons_zero, List.set_cons_succ])
            (refine wpAnyH_ready (rs := [18]) (by kernel_rfl) (by simp) ?_; refine ar18 (fun K hK => ?_) AllReadyH.nil; go_simp)
            have b1 : (fun W => Bx W0 n k l b W ∧ Cv g3 k X W) (w47.alloc (.cells #[.string b] 9)) := by
              have hq : (fun W => Bx W0 n k l b W ∧ Cv g3 k X W) w47 := hHeld
              exact ⟨Bx.next hn hq.1 (bel_al w47 (.cells #[.string b] 9)), Cv.next HX.out hq.2 (bel_al w47 (.cells #[.string b] 9))⟩
            have c1 : Ch w47.heap.size b (w47.alloc (.cells #[.string b] 9)) := Ch.new w47 b
            generalize (w47.alloc (.cells #[.string b] 9)) = w48 at b1 c1 ⊢
            generalize w47.heap.size = g18 at c1 ⊢
            (refine hK.out _ _ b1 (fun hHeld => ?_); clear hK K; try simp only [Act.put, List.setIfInBounds_toArray, List.set_cons_zero, List.set_cons_succ])
            (refine wpAnyH_more (S' := (fun W => Bx W0 n k l b W ∧ Cv g3 k X W ∧ Ch g18 b W)) (fun W h => ⟨h.1, h.2.1⟩) _ _ _ _ ?_; replace hHeld := (show (fun W => Bx W0 n k l b W ∧ Cv g3 k X W ∧ Ch g18 b W) w48 from ⟨b1.1, b1.2, c1⟩))
            clear b1 c1
            (refine wpAnyH_ready (rs := [19]) (by kernel_rfl) (by simp) ?_; refine ar19 (fun K hK => ?_) AllReadyH.nil; go_simp)
            refine (HC.out g18 _ hHeld.2.2.2 hHeld.2.2.1 hHeld.1.1.2).mono ?_
            rintro e w49 ⟨rfl, hb⟩
            have F49 : (fun W => Bx W0 n k l b W ∧ Cv g3 k X W ∧ Ch g18 b W) w49 := ⟨Bx.next hn hHeld.1 hb, Cv.next HX.out hHeld.2.1 hb, Ch.next hHeld.2.2 hb⟩
            clear hb
            go_wp2_with fail
            (refine hK.out _ _ F49 (fun hHeld => ?_); clear hK K; try simp only [Act.put, List.setIfInBounds_toArray, List.set_cons_zero, List.set_cons_succ])
            (refine wpAnyH_ready (rs := [20]) (by kernel_rfl) (by simp) ?_; refine ar20 (fun K hK => ?_) AllReadyH.nil; go_simp)
            refine (H32c.out _).mono ?_
            rintro e w50 ⟨rfl, hb⟩
            have F50 : (fun W => Bx W0 n k l b W ∧ Cv g3 k X W ∧ Ch g18 b W) w50 := ⟨Bx.next hn hHeld.1 hb, Cv.next HX.out hHeld.2.1 hb, Ch.next hHeld.2.2 hb⟩
            clear hb
            go_wp2_with fail
            (refine hK.out _ _ F50 (fun hHeld => ?_); clear hK K; try simp only [Act.put, List.setIfInBounds_toArray, List.set_cons_zero, List.set_cons_succ])
            (refine tk21 (v := ?_) (by kernel_rfl) (by kernel_rfl) (by kernel_rfl) (fun _ _ _ h => h) (Or.inl ⟨by rfl, ?_⟩) (by assumption) ?_; rotate_left; (focus (intro w hSw; (try dsimp only at hSw); go_simp; (try first | (rw [dif_pos (by omega)]; simp only [Result.andThen_ok]) | rw [if_pos (by omega)]); (try with_reducible rfl); done)); try simp only [Act.put, List.setIfInBounds_toArray, List.set_cons_zero, List.set_cons_succ])
            (refine tk22 (v := ?_) (by kernel_rfl) (by kernel_rfl) (by kernel_rfl) (fun _ _ _ h => h) (Or.inl ⟨by rfl, ?_⟩) (by assumption) ?_; rotate_left; (focus (intro w hSw; (try dsimp only at hSw); go_simp; (try first | (rw [dif_pos (by omega)]; simp only [Result.andThen_ok]) | rw [if_pos (by omega)]); (try with_reducible rfl); done)); try simp only [Act.put, List.setIfInBounds_toArray, List.set_cons_zero, List.set_cons_succ])
            refine wpAnyH_done (by kernel_rfl) ?_ _
            exact Post4.here _ g3 g18 hHeld.1
          · have b1 : (fun W => Bx W0 n k l b W) (w46.alloc (.cells #[.string b] 9)) := by
              have hq : (fun W => Bx W0 n k l b W) w46 := hHeld
              exact Bx.next hn hq (bel_al w46 (.cells #[.string b] 9))
            have c1 : Ch w46.heap.size b (w46.alloc (.cells #[.string b] 9)) := Ch.new w46 b
            generalize (w46.alloc (.cells #[.string b] 9)) = w51 at b1 c1 ⊢
            generalize w46.heap.size = g18 at c1 ⊢
            (refine hK.out _ _ b1 (fun hHeld => ?_); clear hK K; try simp only [Act.put, List.setIfInBounds_toArray, List.set_cons_zero, List.set_cons_succ])
            (refine wpAnyH_more (S' := (fun W => Bx W0 n k l b W ∧ Ch g18 b W)) (fun W h => h.1) _ _ _ _ ?_; replace hHeld := (show (fun W => Bx W0 n k l b W ∧ Ch g18 b W) w51 from ⟨b1, c1⟩))
            clear b1 c1
            (refine wpAnyH_ready (rs := [3, 19]) (by kernel_rfl) (by simp) ?_; refine ar3 (fun K hK => ?_) (ar19 (fun K hK => ?_) AllReadyH.nil) <;> go_simp)
            · have b1 : (fun W => Bx W0 n k l b W ∧ Ch g18 b W) (w51.alloc (.cells #[.int .u8 k, .int .u8 0] 5)) := by
                have hq : (fun W => Bx W0 n k l b W ∧ Ch g18 b W) w51 := hHeld
                exact ⟨Bx.next hn hq.1 (bel_al w51 (.cells #[.int .u8 k, .int .u8 0] 5)), Ch.next hq.2 (bel_al w51 (.cells #[.int .u8 k, .int .u8 0] 5))⟩
              have c1 : Cv w51.heap.size k X (w51.alloc (.cells #[.int .u8 k, .int .u8 0] 5)) := Cv.new w51 HX.out
              generalize (w51.alloc (.cells #[.int .u8 k, .int .u8 0] 5)) = w52 at b1 c1 ⊢
              generalize w51.heap.size = g3 at c1 ⊢
              (refine hK.out _ _ b1 (fun hHeld => ?_); clear hK K; try simp only [Act.put, List.setIfInBounds_toArray, List.set_cons_zero, List.set_cons_succ])
              (refine wpAnyH_more (S' := (fun W => Bx W0 n k l b W ∧ Cv g3 k X W ∧ Ch g18 b W)) (fun W h => ⟨h.1, h.2.2⟩) _ _ _ _ ?_; replace hHeld := (show (fun W => Bx W0 n k l b W ∧ Cv g3 k X W ∧ Ch g18 b W) w52 from ⟨b1.1, c1, b1.2⟩))
              clear b1 c1
              (refine tk4 (v := ?_) (by kernel_rfl) (by kernel_rfl) (by kernel_rfl) (fun _ _ _ h => h) (Or.inl ⟨by rfl, ?_⟩) (by assumption) ?_; rotate_left; (focus (intro w hSw; (try dsimp only at hSw); go_simp; (try first | (rw [dif_pos (by omega)]; simp only [Result.andThen_ok]) | rw [if_pos (by omega)]); (try with_reducible rfl); done)); try simp only [Act.put, List.setIfInBounds_toArray, List.set_cons_zero, List.set_cons_succ])
              (refine tk5 (v := ?_) (by kernel_rfl) (by kernel_rfl) (by kernel_rfl) (fun _ _ _ h => h) (Or.inl ⟨by rfl, ?_⟩) (by assumption) ?_; rotate_left; (focus (intro w hSw; (try dsimp only at hSw); go_simp; (try first | (rw [dif_pos (by omega)]; simp only [Result.andThen_ok]) | rw [if_pos (by omega)]); (try with_reducible rfl); done)); try simp only [Act.put, List.setIfInBounds_toArray, List.set_cons_zero, List.set_cons_succ])
              (refine tk11 (v := ?_) (by kernel_rfl) (by kernel_rfl) (by kernel_rfl) (fun _ _ _ h => h) (Or.inl ⟨by rfl, ?_⟩) (by assumption) ?_; rotate_left; (focus (intro w hSw; (try dsimp only at hSw); go_simp; (try first | (rw [dif_pos (by omega)]; simp only [Result.andThen_ok]) | rw [if_pos (by omega)]); (try with_reducible rfl); done)); try simp only [Act.put, List.setIfInBounds_toArray, List.set_cons_zero, List.set_cons_succ])
              (refine tk15 (v := ?_) (by kernel_rfl) (by kernel_rfl) (by kernel_rfl) (fun _ _ _ h => h) (Or.inl ⟨by rfl, ?_⟩) (by assumption) ?_; rotate_left; (focus (intro w hSw; (try dsimp only at hSw); go_simp; (try first | (rw [dif_pos (by omega)]; simp only [Result.andThen_ok]) | rw [if_pos (by omega)]); (try with_reducible rfl); done)); try simp only [Act.put, List.setIfInBounds_toArray, List.set_cons_zero, List.set_cons_succ])
              (refine wpAnyH_ready (rs := [19]) (by kernel_rfl) (by simp) ?_; refine ar19 (fun K hK => ?_) AllReadyH.nil; go_simp)
              refine (HC.out g18 _ hHeld.2.2.2 hHeld.2.2.1 hHeld.1.1.2).mono ?_
              rintro e w53 ⟨rfl, hb⟩
              have F53 : (fun W => Bx W0 n k l b W ∧ Cv g3 k X W ∧ Ch g18 b W) w53 := ⟨Bx.next hn hHeld.1 hb, Cv.next HX.out hHeld.2.1 hb, Ch.next hHeld.2.2 hb⟩
              clear hb
              go_wp2_with fail
              (refine hK.out _ _ F53 (fun hHeld => ?_); clear hK K; try simp only [Act.put, List.setIfInBounds_toArray, List.set_cons_zero, List.set_cons_succ])
              (refine wpAnyH_ready (rs := [20]) (by kernel_rfl) (by simp) ?_; refine ar20 (fun K hK => ?_) AllReadyH.nil; go_simp)
              refine (H32c.out _).mono ?_
              rintro e w54 ⟨rfl, hb⟩
              have F54 : (fun W => Bx W0 n k l b W ∧ Cv g3 k X W ∧ Ch g18 b W) w54 := ⟨Bx.next hn hHeld.1 hb, Cv.next HX.out hHeld.2.1 hb, Ch.next hHeld.2.2 hb⟩
              clear hb
              go_wp2_with fail
              (refine hK.out _ _ F54 (fun hHeld => ?_); clear hK K; try simp only [Act.put, List.setIfInBounds_toArray, List.set_cons_zero, List.set_cons_succ])
              (refine tk21 (v := ?_) (by kernel_rfl) (by kernel_rfl) (by kernel_rfl) (fun _ _ _ h => h) (Or.inl ⟨by rfl, ?_⟩) (by assumption) ?_; rotate_left; (focus (intro w hSw; (try dsimp only at hSw); go_simp; (try first | (rw [dif_pos (by omega)]; simp only [Result.andThen_ok]) | rw [if_pos (by omega)]); (try with_reducible rfl); done)); try simp only [Act.put, List.setIfInBounds_toArray, List.set_cons_zero, List.set_cons_succ])
              (refine tk22 (v := ?_) (by kernel_rfl) (by kernel_rfl) (by kernel_rfl) (fun _ _ _ h => h) (Or.inl ⟨by rfl, ?_⟩) (by assumption) ?_; rotate_left; (focus (intro w hSw; (try dsimp only at hSw); go_simp; (try first | (rw [dif_pos (by omega)]; simp only [Result.andThen_ok]) | rw [if_pos (by omega)]); (try with_reducible rfl); done)); try simp only [Act.put, List.setIfInBounds_toArray, List.set_cons_zero, List.set_cons_succ])
              refine wpAnyH_done (by kernel_rfl) ?_ _
              exact Post4.here _ g3 g18 hHeld.1
            · refine (HC.out g18 _ hHeld.2.2 hHeld.2.1 hHeld.1.1.2).mono ?_
              rintro e w55 ⟨rfl, hb⟩
              have F55 : (fun W => Bx W0 n k l b W ∧ Ch g18 b W) w55 := ⟨Bx.next hn hHeld.1 hb, Ch.next hHeld.2 hb⟩
              clear hb
              go_wp2_with fail
              (refine hK.out _ _ F55 (fun hHeld => ?_); clear hK K; try simp only [Act.put, List.setIfInBounds_toArray, List.set_cons_zero, List.set_cons_succ])
              (refine wpAnyH_ready (rs := [3, 20]) (by kernel_rfl) (by simp) ?_; refine ar3 (fun K hK => ?_) (ar20 (fun K hK => ?_) AllReadyH.nil) <;> go_simp)
              · have b1 : (fun W => Bx W0 n k l b W ∧ Ch g18 b W) (w55.alloc (.cells #[.int .u8 k, .int .u8 0] 5)) := by
                  have hq : (fun W => Bx W0 n k l b W ∧ Ch g18 b W) w55 := hHeld
                  exact ⟨Bx.next hn hq.1 (bel_al w55 (.cells #[.int .u8 k, .int .u8 0] 5)), Ch.next hq.2 (bel_al w55 (.cells #[.int .u8 k, .int .u8 0] 5))⟩
                have c1 : Cv w55.heap.size k X (w55.alloc (.cells #[.int .u8 k, .int .u8 0] 5)) := Cv.new w55 HX.out
                generalize (w55.alloc (.cells #[.int .u8 k, .int .u8 0] 5)) = w56 at b1 c1 ⊢
                generalize w55.heap.size = g3 at c1 ⊢
                (refine hK.out _ _ b1 (fun hHeld => ?_); clear hK K; try simp only [Act.put, List.setIfInBounds_toArray, List.set_cons_zero, List.set_cons_succ])
                (refine wpAnyH_more (S' := (fun W => Bx W0 n k l b W ∧ Cv g3 k X W ∧ Ch g18 b W)) (fun W h => ⟨h.1, h.2.2⟩) _ _ _ _ ?_; replace hHeld := (show (fun W => Bx W0 n k l b W ∧ Cv g3 k X W ∧ Ch g18 b W) w56 from ⟨b1.1, c1, b1.2⟩))
                clear b1 c1
                (refine tk4 (v := ?_) (by kernel_rfl) (by kernel_rfl) (by kernel_rfl) (fun _ _ _ h => h) (Or.inl ⟨by rfl, ?_⟩) (by assumption) ?_; rotate_left; (focus (intro w hSw; (try dsimp only at hSw); go_simp; (try first | (rw [dif_pos (by omega)]; simp only [Result.andThen_ok]) | rw [if_pos (by omega)]); (try with_reducible rfl); done)); try simp only [Act.put, List.setIfInBounds_toArray, List.set_cons_zero, List.set_cons_succ])
                (refine tk5 (v := ?_) (by kernel_rfl) (by kernel_rfl) (by kernel_rfl) (fun _ _ _ h => h) (Or.inl ⟨by rfl, ?_⟩) (by assumption) ?_; rotate_left; (focus (intro w hSw; (try dsimp only at hSw); go_simp; (try first | (rw [dif_pos (by omega)]; simp only [Result.andThen_ok]) | rw [if_pos (by omega)]); (try with_reducible rfl); done)); try simp only [Act.put, List.setIfInBounds_toArray, List.set_cons_zero, List.set_cons_succ])
                (refine tk11 (v := ?_) (by kernel_rfl) (by kernel_rfl) (by kernel_rfl) (fun _ _ _ h => h) (Or.inl ⟨by rfl, ?_⟩) (by assumption) ?_; rotate_left; (focus (intro w hSw; (try dsimp only at hSw); go_simp; (try first | (rw [dif_pos (by omega)]; simp only [Result.andThen_ok]) | rw [if_pos (by omega)]); (try with_reducible rfl); done)); try simp only [Act.put, List.setIfInBounds_toArray, List.set_cons_zero, List.set_cons_succ])
                (refine tk15 (v := ?_) (by kernel_rfl) (by kernel_rfl) (by kernel_rfl) (fun _ _ _ h => h) (Or.inl ⟨by rfl, ?_⟩) (by assumption) ?_; rotate_left; (focus (intro w hSw; (try dsimp only at hSw); go_simp; (try first | (rw [dif_pos (by omega)]; simp only [Result.andThen_ok]) | rw [if_pos (by omega)]); (try with_reducible rfl); done)); try simp only [Act.put, List.setIfInBounds_toArray, List.set_cons_zero, List.set_cons_succ])
                (refine wpAnyH_ready (rs := [20]) (by kernel_rfl) (by simp) ?_; refine ar20 (fun K hK => ?_) AllReadyH.nil; go_simp)
                refine (H32c.out _).mono ?_
                rintro e w57 ⟨rfl, hb⟩
                have F57 : (fun W => Bx W0 n k l b W ∧ Cv g3 k X W ∧ Ch g18 b W) w57 := ⟨Bx.next hn hHeld.1 hb, Cv.next HX.out hHeld.2.1 hb, Ch.next hHeld.2.2 hb⟩
                clear hb
                go_wp2_with fail
                (refine hK.out _ _ F57 (fun hHeld => ?_); clear hK K; try simp only [Act.put, List.setIfInBounds_toArray, List.set_cons_zero, List.set_cons_succ])
                (refine tk21 (v := ?_) (by kernel_rfl) (by kernel_rfl) (by kernel_rfl) (fun _ _ _ h => h) (Or.inl ⟨by rfl, ?_⟩) (by assumption) ?_; rotate_left; (focus (intro w hSw; (try dsimp only at hSw); go_simp; (try first | (rw [dif_pos (by omega)]; simp only [Result.andThen_ok]) | rw [if_pos (by omega)]); (try with_reducible rfl); done)); try simp only [Act.put, List.setIfInBounds_toArray, List.set_cons_zero, List.set_cons_succ])
                (refine tk22 (v := ?_) (by kernel_rfl) (by kernel_rfl) (by kernel_rfl) (fun _ _ _ h => h) (Or.inl ⟨by rfl, ?_⟩) (by assumption) ?_; rotate_left; (focus (intro w hSw; (try dsimp only at hSw); go_simp; (try first | (rw [dif_pos (by omega)]; simp only [Result.andThen_ok]) | rw [if_pos (by omega)]); (try with_reducible rfl); done)); try simp only [Act.put, List.setIfInBounds_toArray, List.set_cons_zero, List.set_cons_succ])
                refine wpAnyH_done (by kernel_rfl) ?_ _
                exact Post4.here _ g3 g18 hHeld.1
              · refine (H32c.out _).mono ?_
                rintro e w58 ⟨rfl, hb⟩
                have F58 : (fun W => Bx W0 n k l b W ∧ Ch g18 b W) w58 := ⟨Bx.next hn hHeld.1 hb, Ch.next hHeld.2 hb⟩
                clear hb
                go_wp2_with fail
                (refine hK.out _ _ F58 (fun hHeld => ?_); clear hK K; try simp only [Act.put, List.setIfInBounds_toArray, List.set_cons_zero, List.set_cons_succ])
                (refine wpAnyH_ready (rs := [3]) (by kernel_rfl) (by simp) ?_; refine ar3 (fun K hK => ?_) AllReadyH.nil; go_simp)
                have b1 : (fun W => Bx W0 n k l b W ∧ Ch g18 b W) (w58.alloc (.cells #[.int .u8 k, .int .u8 0] 5)) := by
                  have hq : (fun W => Bx W0 n k l b W ∧ Ch g18 b W) w58 := hHeld
                  exact ⟨Bx.next hn hq.1 (bel_al w58 (.cells #[.int .u8 k, .int .u8 0] 5)), Ch.next hq.2 (bel_al w58 (.cells #[.int .u8 k, .int .u8 0] 5))⟩
                have c1 : Cv w58.heap.size k X (w58.alloc (.cells #[.int .u8 k, .int .u8 0] 5)) := Cv.new w58 HX.out
                generalize (w58.alloc (.cells #[.int .u8 k, .int .u8 0] 5)) = w59 at b1 c1 ⊢
                generalize w58.heap.size = g3 at c1 ⊢
                (refine hK.out _ _ b1 (fun hHeld => ?_); clear hK K; try simp only [Act.put, List.setIfInBounds_toArray, List.set_cons_zero, List.set_cons_succ])
                (refine wpAnyH_more (S' := (fun W => Bx W0 n k l b W ∧ Cv g3 k X W ∧ Ch g18 b W)) (fun W h => ⟨h.1, h.2.2⟩) _ _ _ _ ?_; replace hHeld := (show (fun W => Bx W0 n k l b W ∧ Cv g3 k X W ∧ Ch g18 b W) w59 from ⟨b1.1, c1, b1.2⟩))
                clear b1 c1
                (refine tk4 (v := ?_) (by kernel_rfl) (by kernel_rfl) (by kernel_rfl) (fun _ _ _ h => h) (Or.inl ⟨by rfl, ?_⟩) (by assumption) ?_; rotate_left; (focus (intro w hSw; (try dsimp only at hSw); go_simp; (try first | (rw [dif_pos (by omega)]; simp only [Result.andThen_ok]) | rw [if_pos (by omega)]); (try with_reducible rfl); done)); try simp only [Act.put, List.setIfInBounds_toArray, List.set_cons_zero, List.set_cons_succ])
                (refine tk5 (v := ?_) (by kernel_rfl) (by kernel_rfl) (by kernel_rfl) (fun _ _ _ h => h) (Or.inl ⟨by rfl, ?_⟩) (by assumption) ?_; rotate_left; (focus (intro w hSw; (try dsimp only at hSw); go_simp; (try first | (rw [dif_pos (by omega)]; simp only [Result.andThen_ok]) | rw [if_pos (by omega)]); (try with_reducible rfl); done)); try simp only [Act.put, List.setIfInBounds_toArray, List.set_cons_zero, List.set_cons_succ])
                (refine tk11 (v := ?_) (by kernel_rfl) (by kernel_rfl) (by kernel_rfl) (fun _ _ _ h => h) (Or.inl ⟨by rfl, ?_⟩) (by assumption) ?_; rotate_left; (focus (intro w hSw; (try dsimp only at hSw); go_simp; (try first | (rw [dif_pos (by omega)]; simp only [Result.andThen_ok]) | rw [if_pos (by omega)]); (try with_reducible rfl); done)); try simp only [Act.put, List.setIfInBounds_toArray, List.set_cons_zero, List.set_cons_succ])
                (refine tk15 (v := ?_) (by kernel_rfl) (by kernel_rfl) (by kernel_rfl) (fun _ _ _ h => h) (Or.inl ⟨by rfl, ?_⟩) (by assumption) ?_; rotate_left; (focus (intro w hSw; (try dsimp only at hSw); go_simp; (try first | (rw [dif_pos (by omega)]; simp only [Result.andThen_ok]) | rw [if_pos (by omega)]); (try with_reducible rfl); done)); try simp only [Act.put, List.setIfInBounds_toArray, List.set_cons_zero, List.set_cons_succ])
                (refine tk21 (v := ?_) (by kernel_rfl) (by kernel_rfl) (by kernel_rfl) (fun _ _ _ h => h) (Or.inl ⟨by rfl, ?_⟩) (by assumption) ?_; rotate_left; (focus (intro w hSw; (try dsimp only at hSw); go_simp; (try first | (rw [dif_pos (by omega)]; simp only [Result.andThen_ok]) | rw [if_pos (by omega)]); (try with_reducible rfl); done)); try simp only [Act.put, List.setIfInBounds_toArray, List.set_cons_zero, List.set_cons_succ])
                (refine tk22 (v := ?_) (by kernel_rfl) (by kernel_rfl) (by kernel_rfl) (fun _ _ _ h => h) (Or.inl ⟨by rfl, ?_⟩) (by assumption) ?_; rotate_left; (focus (intro w hSw; (try dsimp only at hSw); go_simp; (try first | (rw [dif_pos (by omega)]; simp only [Result.andThen_ok]) | rw [if_pos (by omega)]); (try with_reducible rfl); done)); try simp only [Act.put, List.setIfInBounds_toArray, List.set_cons_zero, List.set_cons_succ])
                refine wpAnyH_done (by kernel_rfl) ?_ _
                exact Post4.here _ g3 g18 hHeld.1
        · have b1 : (fun W => Bx W0 n k l b W) (w36.alloc (.cells #[.string b] 9)) := by
            have hq : (fun W => Bx W0 n k l b W) w36 := hHeld
            exact Bx.next hn hq (bel_al w36 (.cells #[.string b] 9))
          have c1 : Ch w36.heap.size b (w36.alloc (.cells #[.string b] 9)) := Ch.new w36 b
          generalize (w36.alloc (.cells #[.string b] 9)) = w60 at b1 c1 ⊢
          generalize w36.heap.size = g18 at c1 ⊢
          (refine hK.out _ _ b1 (fun hHeld => ?_); clear hK K; try simp only [Act.put, List.setIfInBounds_toArray, List.set_cons_zero, List.set_cons_succ])
          (refine wpAnyH_more (S' := (fun W => Bx W0 n k l b W ∧ Ch g18 b W)) (fun W h => h.1) _ _ _ _ ?_; replace hHeld := (show (fun W => Bx W0 n k l b W ∧ Ch g18 b W) w60 from ⟨b1, c1⟩))
          clear b1 c1
          (refine wpAnyH_ready (rs := [3, 14]) (by kernel_rfl) (by simp) ?_; refine ar3 (fun K hK => ?_) (ar14 (fun K hK => ?_) AllReadyH.nil) <;> go_simp)
          · have b1 : (fun W => Bx W0 n k l b W ∧ Ch g18 b W) (w60.alloc (.cells #[.int .u8 k, .int .u8 0] 5)) := by
              have hq : (fun W => Bx W0 n k l b W ∧ Ch g18 b W) w60 := hHeld
              exact ⟨Bx.next hn hq.1 (bel_al w60 (.cells #[.int .u8 k, .int .u8 0] 5)), Ch.next hq.2 (bel_al w60 (.cells #[.int .u8 k, .int .u8 0] 5))⟩
            have c1 : Cv w60.heap.size k X (w60.alloc (.cells #[.int .u8 k, .int .u8 0] 5)) := Cv.new w60 HX.out
            generalize (w60.alloc (.cells #[.int .u8 k, .int .u8 0] 5)) = w61 at b1 c1 ⊢
            generalize w60.heap.size = g3 at c1 ⊢
            (refine hK.out _ _ b1 (fun hHeld => ?_); clear hK K; try simp only [Act.put, List.setIfInBounds_toArray, List.set_cons_zero, List.set_cons_succ])
            (refine wpAnyH_more (S' := (fun W => Bx W0 n k l b W ∧ Cv g3 k X W ∧ Ch g18 b W)) (fun W h => ⟨h.1, h.2.2⟩) _ _ _ _ ?_; replace hHeld := (show (fun W => Bx W0 n k l b W ∧ Cv g3 k X W ∧ Ch g18 b W) w61 from ⟨b1.1, c1, b1.2⟩))
            clear b1 c1
            (refine tk4 (v := ?_) (by kernel_rfl) (by kernel_rfl) (by kernel_rfl) (fun _ _ _ h => h) (Or.inl ⟨by rfl, ?_⟩) (by assumption) ?_; rotate_left; (focus (intro w hSw; (try dsimp only at hSw); go_simp; (try first | (rw [dif_pos (by omega)]; simp only [Result.andThen_ok]) | rw [if_pos (by omega)]); (try with_reducible rfl); done)); try simp only [Act.put, List.setIfInBounds_toArray, List.set_cons_zero, List.set_cons_succ])
            (refine tk5 (v := ?_) (by kernel_rfl) (by kernel_rfl) (by kernel_rfl) (fun _ _ _ h => h) (Or.inl ⟨by rfl, ?_⟩) (by assumption) ?_; rotate_left; (focus (intro w hSw; (try dsimp only at hSw); go_simp; (try first | (rw [dif_pos (by omega)]; simp only [Result.andThen_ok]) | rw [if_pos (by omega)]); (try with_reducible rfl); done)); try simp only [Act.put, List.setIfInBounds_toArray, List.set_cons_zero, List.set_cons_succ])
            (refine tk11 (v := ?_) (by kernel_rfl) (by kernel_rfl) (by kernel_rfl) (fun _ _ _ h => h) (Or.inl ⟨by rfl, ?_⟩) (by assumption) ?_; rotate_left; (focus (intro w hSw; (try dsimp only at hSw); go_simp; (try first | (rw [dif_pos (by omega)]; simp only [Result.andThen_ok]) | rw [if_pos (by omega)]); (try with_reducible rfl); done)); try simp only [Act.put, List.setIfInBounds_toArray, List.set_cons_zero, List.set_cons_succ])
            (refine wpAnyH_ready (rs := [14]) (by kernel_rfl) (by simp) ?_; refine ar14 (fun K hK => ?_) AllReadyH.nil; go_simp)
            refine (H64.out _).mono ?_
            rintro e w62 ⟨rfl, hb⟩
            have F62 : (fun W => Bx W0 n k l b W ∧ Cv g3 k X W ∧ Ch g18 b W) w62 := ⟨Bx.next hn hHeld.1 hb, Cv.next HX.out hHeld.2.1 hb, Ch.next hHeld.2.2 hb⟩
            clear hb
            go_wp2_with fail
            (refine hK.out _ _ F62 (fun hHeld => ?_); clear hK K; try simp only [Act.put, List.setIfInBounds_toArray, List.set_cons_zero, List.set_cons_succ])
            (refine tk15 (v := ?_) (by kernel_rfl) (by kernel_rfl) (by kernel_rfl) (fun _ _ _ h => h) (Or.inl ⟨by rfl, ?_⟩) (by assumption) ?_; rotate_left; (focus (intro w hSw; (try dsimp only at hSw); go_simp; (try first | (rw [dif_pos (by omega)]; simp only [Result.andThen_ok]) | rw [if_pos (by omega)]); (try with_reducible rfl); done)); try simp only [Act.put, List.setIfInBounds_toArray, List.set_cons_zero, List.set_cons_succ])
            (refine wpAnyH_ready (rs := [19]) (by kernel_rfl) (by simp) ?_; refine ar19 (fun K hK => ?_) AllReadyH.nil; go_simp)
            refine (HC.out g18 _ hHeld.2.2.2 hHeld.2.2.1 hHeld.1.1.2).mono ?_
            rintro e w63 ⟨rfl, hb⟩
            have F63 : (fun W => Bx W0 n k l b W ∧ Cv g3 k X W ∧ Ch g18 b W) w63 := ⟨Bx.next hn hHeld.1 hb, Cv.next HX.out hHeld.2.1 hb, Ch.next hHeld.2.2 hb⟩
            clear hb
            go_wp2_with fail
            (refine hK.out _ _ F63 (fun hHeld => ?_); clear hK K; try simp only [Act.put, List.setIfInBounds_toArray, List.set_cons_zero, List.set_cons_succ])
            (refine wpAnyH_ready (rs := [20]) (by kernel_rfl) (by simp) ?_; refine ar20 (fun K hK => ?_) AllReadyH.nil; go_simp)
            refine (H32c.out _).mono ?_
            rintro e w64 ⟨rfl, hb⟩
            have F64 : (fun W => Bx W0 n k l b W ∧ Cv g3 k X W ∧ Ch g18 b W) w64 := ⟨Bx.next hn hHeld.1 hb, Cv.next HX.out hHeld.2.1 hb, Ch.next hHeld.2.2 hb⟩
            clear hb
            go_wp2_with fail
            (refine hK.out _ _ F64 (fun hHeld => ?_); clear hK K; try simp only [Act.put, List.setIfInBounds_toArray, List.set_cons_zero, List.set_cons_succ])
            (refine tk21 (v := ?_) (by kernel_rfl) (by kernel_rfl) (by kernel_rfl) (fun _ _ _ h => h) (Or.inl ⟨by rfl, ?_⟩) (by assumption) ?_; rotate_left; (focus (intro w hSw; (try dsimp only at hSw); go_simp; (try first | (rw [dif_pos (by omega)]; simp only [Result.andThen_ok]) | rw [if_pos (by omega)]); (try with_reducible rfl); done)); try simp only [Act.put, List.setIfInBounds_toArray, List.set_cons_zero, List.set_cons_succ])
            (refine tk22 (v := ?_) (by kernel_rfl) (by kernel_rfl) (by kernel_rfl) (fun _ _ _ h => h) (Or.inl ⟨by rfl, ?_⟩) (by assumption) ?_; rotate_left; (focus (intro w hSw; (try dsimp only at hSw); go_simp; (try first | (rw [dif_pos (by omega)]; simp only [Result.andThen_ok]) | rw [if_pos (by omega)]); (try with_reducible rfl); done)); try simp only [Act.put, List.setIfInBounds_toArray, List.set_cons_zero, List.set_cons_succ])
            refine wpAnyH_done (by kernel_rfl) ?_ _
            exact Post4.here _ g3 g18 hHeld.1
          · refine (H64.out _).mono ?_
            rintro e w65 ⟨rfl, hb⟩
            have F65 : (fun W => Bx W0 n k l b W ∧ Ch g18 b W) w65 := ⟨Bx.next hn hHeld.1 hb, Ch.next hHeld.2 hb⟩
            clear hb
            go_wp2_with fail
            (refine hK.out _ _ F65 (fun hHeld => ?_); clear hK K; try simp only [Act.put, List.setIfInBounds_toArray, List.set_cons_zero, List.set_cons_succ])
            (refine wpAnyH_ready (rs := [3, 19]) (by kernel_rfl) (by simp) ?_; refine ar3 (fun K hK => ?_) (ar19 (fun K hK => ?_) AllReadyH.nil) <;> go_simp)
            · have b1 : (fun W => Bx W0 n k l b W ∧ Ch g18 b W) (w65.alloc (.cells #[.int .u8 k, .int .u8 0] 5)) := by
                have hq : (fun W => Bx W0 n k l b W ∧ Ch g18 b W) w65 := hHeld
                exact ⟨Bx.next hn hq.1 (bel_al w65 (.cells #[.int .u8 k, .int .u8 0] 5)), Ch.next hq.2 (bel_al w65 (.cells #[.int .u8 k, .int .u8 0] 5))⟩
              have c1 : Cv w65.heap.size k X (w65.alloc (.cells #[.int .u8 k, .int .u8 0] 5)) := Cv.new w65 HX.out
              generalize (w65.alloc (.cells #[.int .u8 k, .int .u8 0] 5)) = w66 at b1 c1 ⊢
              generalize w65.heap.size = g3 at c1 ⊢
              (refine hK.out _ _ b1 (fun hHeld => ?_); clear hK K; try simp only [Act.put, List.setIfInBounds_toArray, List.set_cons_zero, List.set_cons_succ])
              (refine wpAnyH_more (S' := (fun W => Bx W0 n k l b W ∧ Cv g3 k X W ∧ Ch g18 b W)) (fun W h => ⟨h.1, h.2.2⟩) _ _ _ _ ?_; replace hHeld := (show (fun W => Bx W0 n k l b W ∧ Cv g3 k X W ∧ Ch g18 b W) w66 from ⟨b1.1, c1, b1.2⟩))
              clear b1 c1
              (refine tk4 (v := ?_) (by kernel_rfl) (by kernel_rfl) (by kernel_rfl) (fun _ _ _ h => h) (Or.inl ⟨by rfl, ?_⟩) (by assumption) ?_; rotate_left; (focus (intro w hSw; (try dsimp only at hSw); go_simp; (try first | (rw [dif_pos (by omega)]; simp only [Result.andThen_ok]) | rw [if_pos (by omega)]); (try with_reducible rfl); done)); try simp only [Act.put, List.setIfInBounds_toArray, List.set_cons_zero, List.set_cons_succ])
              (refine tk5 (v := ?_) (by kernel_rfl) (by kernel_rfl) (by kernel_rfl) (fun _ _ _ h => h) (Or.inl ⟨by rfl, ?_⟩) (by assumption) ?_; rotate_left; (focus (intro w hSw; (try dsimp only at hSw); go_simp; (try first | (rw [dif_pos (by omega)]; simp only [Result.andThen_ok]) | rw [if_pos (by omega)]); (try with_reducible rfl); done)); try simp only [Act.put, List.setIfInBounds_toArray, List.set_cons_zero, List.set_cons_succ])
              (refine tk11 (v := ?_) (by kernel_rfl) (by kernel_rfl) (by kernel_rfl) (fun _ _ _ h => h) (Or.inl ⟨by rfl, ?_⟩) (by assumption) ?_; rotate_left; (focus (intro w hSw; (try dsimp only at hSw); go_simp; (try first | (rw [dif_pos (by omega)]; simp only [Result.andThen_ok]) | rw [if_pos (by omega)]); (try with_reducible rfl); done)); try simp only [Act.put, List.setIfInBounds_toArray, List.set_cons_zero, List.set_cons_succ])
              (refine tk15 (v := ?_) (by kernel_rfl) (by kernel_rfl) (by kernel_rfl) (fun _ _ _ h => h) (Or.inl ⟨by rfl, ?_⟩) (by assumption) ?_; rotate_left; (focus (intro w hSw; (try dsimp only at hSw); go_simp; (try first | (rw [dif_pos (by omega)]; simp only [Result.andThen_ok]) | rw [if_pos (by omega)]); (try with_reducible rfl); done)); try simp only [Act.put, List.setIfInBounds_toArray, List.set_cons_zero, List.set_cons_succ])
              (refine wpAnyH_ready (rs := [19]) (by kernel_rfl) (by simp) ?_; refine ar19 (fun K hK => ?_) AllReadyH.nil; go_simp)
              refine (HC.out g18 _ hHeld.2.2.2 hHeld.2.2.1 hHeld.1.1.2).mono ?_
              rintro e w67 ⟨rfl, hb⟩
              have F67 : (fun W => Bx W0 n k l b W ∧ Cv g3 k X W ∧ Ch g18 b W) w67 := ⟨Bx.next hn hHeld.1 hb, Cv.next HX.out hHeld.2.1 hb, Ch.next hHeld.2.2 hb⟩
              clear hb
              go_wp2_with fail
              (refine hK.out _ _ F67 (fun hHeld => ?_); clear hK K; try simp only [Act.put, List.setIfInBounds_toArray, List.set_cons_zero, List.set_cons_succ])
              (refine wpAnyH_ready (rs := [20]) (by kernel_rfl) (by simp) ?_; refine ar20 (fun K hK => ?_) AllReadyH.nil; go_simp)
              refine (H32c.out _).mono ?_
              rintro e w68 ⟨rfl, hb⟩
              have F68 : (fun W => Bx W0 n k l b W ∧ Cv g3 k X W ∧ Ch g18 b W) w68 := ⟨Bx.next hn hHeld.1 hb, Cv.next HX.out hHeld.2.1 hb, Ch.next hHeld.2.2 hb⟩
              clear hb
              go_wp2_with fail
              (refine hK.out _ _ F68 (fun hHeld => ?_); clear hK K; try simp only [Act.put, List.setIfInBounds_toArray, List.set_cons_zero, List.set_cons_succ])
              (refine tk21 (v := ?_) (by kernel_rfl) (by kernel_rfl) (by kernel_rfl) (fun _ _ _ h => h) (Or.inl ⟨by rfl, ?_⟩) (by assumption) ?_; rotate_left; (focus (intro w hSw; (try dsimp only at hSw); go_simp; (try first | (rw [dif_pos (by omega)]; simp only [Result.andThen_ok]) | rw [if_pos (by omega)]); (try with_reducible rfl); done)); try simp only [Act.put, List.setIfInBounds_toArray, List.set_cons_zero, List.set_cons_succ])
              (refine tk22 (v := ?_) (by kernel_rfl) (by kernel_rfl) (by kernel_rfl) (fun _ _ _ h => h) (Or.inl ⟨by rfl, ?_⟩) (by assumption) ?_; rotate_left; (focus (intro w hSw; (try dsimp only at hSw); go_simp; (try first | (rw [dif_pos (by omega)]; simp only [Result.andThen_ok]) | rw [if_pos (by omega)]); (try with_reducible rfl); done)); try simp only [Act.put, List.setIfInBounds_toArray, List.set_cons_zero, List.set_cons_succ])
              refine wpAnyH_done (by kernel_rfl) ?_ _
              exact Post4.here _ g3 g18 hHeld.1
            · refine (HC.out g18 _ hHeld.2.2 hHeld.2.1 hHeld.1.1.2).mono ?_
              rintro e w69 ⟨rfl, hb⟩
              have F69 : (fun W => Bx W0 n k l b W ∧ Ch g18 b W) w69 := ⟨Bx.next hn hHeld.1 hb, Ch.next hHeld.2 hb⟩
              clear hb
              go_wp2_with fail
              (refine hK.out _ _ F69 (fun hHeld => ?_); clear hK K; try simp only [Act.put, List.setIfInBounds_toArray, List.set_cons_zero, List.set_cons_succ])
              (refine wpAnyH_ready (rs := [3, 20]) (by kernel_rfl) (by simp) ?_; refine ar3 (fun K hK => ?_) (ar20 (fun K hK => ?_) AllReadyH.nil) <;> go_simp)
              · have b1 : (fun W => Bx W0 n k l b W ∧ Ch g18 b W) (w69.alloc (.cells #[.int .u8 k, .int .u8 0] 5)) := by
                  have hq : (fun W => Bx W0 n k l b W ∧ Ch g18 b W) w69 := hHeld
                  exact ⟨Bx.next hn hq.1 (bel_al w69 (.cells #[.int .u8 k, .int .u8 0] 5)), Ch.next hq.2 (bel_al w69 (.cells #[.int .u8 k, .int .u8 0] 5))⟩
                have c1 : Cv w69.heap.size k X (w69.alloc (.cells #[.int .u8 k, .int .u8 0] 5)) := Cv.new w69 HX.out
                generalize (w69.alloc (.cells #[.int .u8 k, .int .u8 0] 5)) = w70 at b1 c1 ⊢
                generalize w69.heap.size = g3 at c1 ⊢
                (refine hK.out _ _ b1 (fun hHeld => ?_); clear hK K; try simp only [Act.put, List.setIfInBounds_toArray, List.set_cons_zero, List.set_cons_succ])
                (refine wpAnyH_more (S' := (fun W => Bx W0 n k l b W ∧ Cv g3 k X W ∧ Ch g18 b W)) (fun W h => ⟨h.1, h.2.2⟩) _ _ _ _ ?_; replace hHeld := (show (fun W => Bx W0 n k l b W ∧ Cv g3 k X W ∧ Ch g18 b W) w70 from ⟨b1.1, c1, b1.2⟩))
                clear b1 c1
                (refine tk4 (v := ?_) (by kernel_rfl) (by kernel_rfl) (by kernel_rfl) (fun _ _ _ h => h) (Or.inl ⟨by rfl, ?_⟩) (by assumption) ?_; rotate_left; (focus (intro w hSw; (try dsimp only at hSw); go_simp; (try first | (rw [dif_pos (by omega)]; simp only [Result.andThen_ok]) | rw [if_pos (by omega)]); (try with_reducible rfl); done)); try simp only [Act.put, List.setIfInBounds_toArray, List.set_cons_zero, List.set_cons_succ])
                (refine tk5 (v := ?_) (by kernel_rfl) (by kernel_rfl) (by kernel_rfl) (fun _ _ _ h => h) (Or.inl ⟨by rfl, ?_⟩) (by assumption) ?_; rotate_left; (focus (intro w hSw; (try dsimp only at hSw); go_simp; (try first | (rw [dif_pos (by omega)]; simp only [Result.andThen_ok]) | rw [if_pos (by omega)]); (try with_reducible rfl); done)); try simp only [Act.put, List.setIfInBounds_toArray, List.set_cons_zero, List.set_cons_succ])
                (refine tk11 (v := ?_) (by kernel_rfl) (by kernel_rfl) (by kernel_rfl) (fun _ _ _ h => h) (Or.inl ⟨by rfl, ?_⟩) (by assumption) ?_; rotate_left; (focus (intro w hSw; (try dsimp only at hSw); go_simp; (try first | (rw [dif_pos (by omega)]; simp only [Result.andThen_ok]) | rw [if_pos (by omega)]); (try with_reducible rfl); done)); try simp only [Act.put, List.setIfInBounds_toArray, List.set_cons_zero, List.set_cons_succ])
                (refine tk15 (v := ?_) (by kernel_rfl) (by kernel_rfl) (by kernel_rfl) (fun _ _ _ h => h) (Or.inl ⟨by rfl, ?_⟩) (by assumption) ?_; rotate_left; (focus (intro w hSw; (try dsimp only at hSw); go_simp; (try first | (rw [dif_pos (by omega)]; simp only [Result.andThen_ok]) | rw [if_pos (by omega)]); (try with_reducible rfl); done)); try simp only [Act.put, List.setIfInBounds_toArray, List.set_cons_zero, List.set_cons_succ])
                (refine wpAnyH_ready (rs := [20]) (by kernel_rfl) (by simp) ?_; refine ar20 (fun K hK => ?_) AllReadyH.nil; go_simp)
                refine (H32c.out _).mono ?_
                rintro e w71 ⟨rfl, hb⟩
                have F71 : (fun W => Bx W0 n k l b W ∧ Cv g3 k X W ∧ Ch g18 b W) w71 := ⟨Bx.next hn hHeld.1 hb, Cv.next HX.out hHeld.2.1 hb, Ch.next hHeld.2.2 hb⟩
                clear hb
                go_wp2_with fail
                (refine hK.out _ _ F71 (fun hHeld => ?_); clear hK K; try simp only [Act.put, List.setIfInBounds_toArray, List.set_cons_zero, List.set_cons_succ])
                (refine tk21 (v := ?_) (by kernel_rfl) (by kernel_rfl) (by kernel_rfl) (fun _ _ _ h => h) (Or.inl ⟨by rfl, ?_⟩) (by assumption) ?_; rotate_left; (focus (intro w hSw; (try dsimp only at hSw); go_simp; (try first | (rw [dif_pos (by omega)]; simp only [Result.andThen_ok]) | rw [if_pos (by omega)]); (try with_reducible rfl); done)); try simp only [Act.put, List.setIfInBounds_toArray, List.set_cons_zero, List.set_cons_succ])
                (refine tk22 (v := ?_) (by kernel_rfl) (by kernel_rfl) (by kernel_rfl) (fun _ _ _ h => h) (Or.inl ⟨by rfl, ?_⟩) (by assumption) ?_; rotate_left; (focus (intro w hSw; (try dsimp only at hSw); go_simp; (try first | (rw [dif_pos (by omega)]; simp only [Result.andThen_ok]) | rw [if_pos (by omega)]); (try with_reducible rfl); done)); try simp only [Act.put, List.setIfInBounds_toArray, List.set_cons_zero, List.set_cons_succ])
                refine wpAnyH_done (by kernel_rfl) ?_ _
                exact Post4.here _ g3 g18 hHeld.1
              · refine (H32c.out _).mono ?_
                rintro e w72 ⟨rfl, hb⟩
                have F72 : (fun W => Bx W0 n k l b W ∧ Ch g18 b W) w72 := ⟨Bx.next hn hHeld.1 hb, Ch.next hHeld.2 hb⟩
                clear hb
                go_wp2_with fail
                (refine hK.out _ _ F72 (fun hHeld => ?_); clear hK K; try simp only [Act.put, List.setIfInBounds_toArray, List.set_cons_zero, List.set_cons_succ])
                (refine wpAnyH_ready (rs := [3]) (by kernel_rfl) (by simp) ?_; refine ar3 (fun K hK => ?_) AllReadyH.nil; go_simp)
                have b1 : (fun W => Bx W0 n k l b W ∧ Ch g18 b W) (w72.alloc (.cells #[.int .u8 k, .int .u8 0] 5)) := by
                  have hq : (fun W => Bx W0 n k l b W ∧ Ch g18 b W) w72 := hHeld
                  exact ⟨Bx.next hn hq.1 (bel_al w72 (.cells #[.int .u8 k, .int .u8 0] 5)), Ch.next hq.2 (bel_al w72 (.cells #[.int .u8 k, .int .u8 0] 5))⟩
                have c1 : Cv w72.heap.size k X (w72.alloc (.cells #[.int .u8 k, .int .u8 0] 5)) := Cv.new w72 HX.out
                generalize (w72.alloc (.cells #[.int .u8 k, .int .u8 0] 5)) = w73 at b1 c1 ⊢
                generalize w72.heap.size = g3 at c1 ⊢
                (refine hK.out _ _ b1 (fun hHeld => ?_); clear hK K; try simp only [Act.put, List.setIfInBounds_toArray, List.set_cons_zero, List.set_cons_succ])
                (refine wpAnyH_more (S' := (fun W => Bx W0 n k l b W ∧ Cv g3 k X W ∧ Ch g18 b W)) (fun W h => ⟨h.1, h.2.2⟩) _ _ _ _ ?_; replace hHeld := (show (fun W => Bx W0 n k l b W ∧ Cv g3 k X W ∧ Ch g18 b W) w73 from ⟨b1.1, c1, b1.2⟩))
                clear b1 c1
                (refine tk4 (v := ?_) (by kernel_rfl) (by kernel_rfl) (by kernel_rfl) (fun _ _ _ h => h) (Or.inl ⟨by rfl, ?_⟩) (by assumption) ?_; rotate_left; (focus (intro w hSw; (try dsimp only at hSw); go_simp; (try first | (rw [dif_pos (by omega)]; simp only [Result.andThen_ok]) | rw [if_pos (by omega)]); (try with_reducible rfl); done)); try simp only [Act.put, List.setIfInBounds_toArray, List.set_cons_zero, List.set_cons_succ])
                (refine tk5 (v := ?_) (by kernel_rfl) (by kernel_rfl) (by kernel_rfl) (fun _ _ _ h => h) (Or.inl ⟨by rfl, ?_⟩) (by assumption) ?_; rotate_left; (focus (intro w hSw; (try dsimp only at hSw); go_simp; (try first | (rw [dif_pos (by omega)]; simp only [Result.andThen_ok]) | rw [if_pos (by omega)]); (try with_reducible rfl); done)); try simp only [Act.put, List.setIfInBounds_toArray, List.set_cons_zero, List.set_cons_succ])
                (refine tk11 (v := ?_) (by kernel_rfl) (by kernel_rfl) (by kernel_rfl) (fun _ _ _ h => h) (Or.inl ⟨by rfl, ?_⟩) (by assumption) ?_; rotate_left; (focus (intro w hSw; (try dsimp only at hSw); go_simp; (try first | (rw [dif_pos (by omega)]; simp only [Result.andThen_ok]) | rw [if_pos (by omega)]); (try with_reducible rfl); done)); try simp only [Act.put, List.setIfInBounds_toArray, List.set_cons_zero, List.set_cons_succ])
                (refine tk15 (v := ?_) (by kernel_rfl) (by kernel_rfl) (by kernel_rfl) (fun _ _ _ h => h) (Or.inl ⟨by rfl, ?_⟩) (by assumption) ?_; rotate_left; (focus (intro w hSw; (try dsimp only at hSw); go_simp; (try first | (rw [dif_pos (by omega)]; simp only [Result.andThen_ok]) | rw [if_pos (by omega)]); (try with_reducible rfl); done)); try simp only [Act.put, List.setIfInBounds_toArray, List.set_cons_zero, List.set_cons_succ])
                (refine tk21 (v := ?_) (by kernel_rfl) (by kernel_rfl) (by kernel_rfl) (fun _ _ _ h => h) (Or.inl ⟨by rfl, ?_⟩) (by assumption) ?_; rotate_left; (focus (intro w hSw; (try dsimp only at hSw); go_simp; (try first | (rw [dif_pos (by omega)]; simp only [Result.andThen_ok]) | rw [if_pos (by omega)]); (try with_reducible rfl); done)); try simp only [Act.put, List.setIfInBounds_toArray, List.set_cons_zero, List.set_cons_succ])
                (refine tk22 (v := ?_) (by kernel_rfl) (by kernel_rfl) (by kernel_rfl) (fun _ _ _ h => h) (Or.inl ⟨by rfl, ?_⟩) (by assumption) ?_; rotate_left; (focus (intro w hSw; (try dsimp only at hSw); go_simp; (try first | (rw [dif_pos (by omega)]; simp only [Result.andThen_ok]) | rw [if_pos (by omega)]); (try with_reducible rfl); done)); try simp only [Act.put, List.setIfInBounds_toArray, List.set_cons_zero, List.set_cons_succ])
                refine wpAnyH_done (by kernel_rfl) ?_ _
                exact Post4.here _ g3 g18 hHeld.1
      · have b1 : (fun W => Bx W0 n k l b W) (W0.alloc (.cells #[.string b] 9)).drew := by
          have hq : (fun W => Bx W0 n k l b W) W0 := hB00
          exact Bx.next hn hq ((bel_al W0 (.cells #[.string b] 9)).drew)
        have c1 : Ch W0.heap.size b (W0.alloc (.cells #[.string b] 9)).drew := (Ch.new W0 b).next (bel_dr _)
        generalize (W0.alloc (.cells #[.string b] 9)).drew = w74 at b1 c1 ⊢
        generalize W0.heap.size = g18 at c1 ⊢
        (refine hK.out _ _ b1 (fun hHeld => ?_); clear hK K; try simp only [Act.put, List.setIfInBounds_toArray, List.set_cons_zero, List.set_cons_succ])
        (refine wpAnyH_more (S' := (fun W => Bx W0 n k l b W ∧ Ch g18 b W)) (fun W h => h.1) _ _ _ _ ?_; replace hHeld := (show (fun W => Bx W0 n k l b W ∧ Ch g18 b W) w74 from ⟨b1, c1⟩))
        clear b1 c1
        (refine wpAnyH_ready (rs := [3, 10]) (by kernel_rfl) (by simp) ?_; refine ar3 (fun K hK => ?_) (ar10 (fun K hK => ?_) AllReadyH.nil) <;> go_simp)
        · have b1 : (fun W => Bx W0 n k l b W ∧ Ch g18 b W) (w74.alloc (.cells #[.int .u8 k, .int .u8 0] 5)) := by
            have hq : (fun W => Bx W0 n k l b W ∧ Ch g18 b W) w74 := hHeld
            exact ⟨Bx.next hn hq.1 (bel_al w74 (.cells #[.int .u8 k, .int .u8 0] 5)), Ch.next hq.2 (bel_al w74 (.cells #[.int .u8 k, .int .u8 0] 5))⟩
          have c1 : Cv w74.heap.size k X (w74.alloc (.cells #[.int .u8 k, .int .u8 0] 5)) := Cv.new w74 HX.out
          generalize (w74.alloc (.cells #[.int .u8 k, .int .u8 0] 5)) = w75 at b1 c1 ⊢
          generalize w74.heap.size = g3 at c1 ⊢
          (refine hK.out _ _ b1 (fun hHeld => ?_); clear hK K; try simp only [Act.put, List.setIfInBounds_toArray, List.set_cons_zero, List.set_cons_succ])
          (refine wpAnyH_more (S' := (fun W => Bx W0 n k l b W ∧ Cv g3 k X W ∧ Ch g18 b W)) (fun W h => ⟨h.1, h.2.2⟩) _ _ _ _ ?_; replace hHeld := (show (fun W => Bx W0 n k l b W ∧ Cv g3 k X W ∧ Ch g18 b W) w75 from ⟨b1.1, c1, b1.2⟩))
          clear b1 c1
          (refine tk4 (v := ?_) (by kernel_rfl) (by kernel_rfl) (by kernel_rfl) (fun _ _ _ h => h) (Or.inl ⟨by rfl, ?_⟩) (by assumption) ?_; rotate_left; (focus (intro w hSw; (try dsimp only at hSw); go_simp; (try first | (rw [dif_pos (by omega)]; simp only [Result.andThen_ok]) | rw [if_pos (by omega)]); (try with_reducible rfl); done)); try simp only [Act.put, List.setIfInBounds_toArray, List.set_cons_zero, List.set_cons_succ])
          (refine tk5 (v := ?_) (by kernel_rfl) (by kernel_rfl) (by kernel_rfl) (fun _ _ _ h => h) (Or.inl ⟨by rfl, ?_⟩) (by assumption) ?_; rotate_left; (focus (intro w hSw; (try dsimp only at hSw); go_simp; (try first | (rw [dif_pos (by omega)]; simp only [Result.andThen_ok]) | rw [if_pos (by omega)]); (try with_reducible rfl); done)); try simp only [Act.put, List.setIfInBounds_toArray, List.set_cons_zero, List.set_cons_succ])
          (refine wpAnyH_ready (rs := [10]) (by kernel_rfl) (by simp) ?_; refine ar10 (fun K hK => ?_) AllReadyH.nil; go_simp)
          refine (H32.out _).mono ?_
          rintro e w76 ⟨rfl, hb⟩
          have F76 : (fun W => Bx W0 n k l b W ∧ Cv g3 k X W ∧ Ch g18 b W) w76 := ⟨Bx.next hn hHeld.1 hb, Cv.next HX.out hHeld.2.1 hb, Ch.next hHeld.2.2 hb⟩
          clear hb
          go_wp2_with fail
          (refine hK.out _ _ F76 (fun hHeld => ?_); clear hK K; try simp only [Act.put, List.setIfInBounds_toArray, List.set_cons_zero, List.set_cons_succ])
          (refine tk11 (v := ?_) (by kernel_rfl) (by kernel_rfl) (by kernel_rfl) (fun _ _ _ h => h) (Or.inl ⟨by rfl, ?_⟩) (by assumption) ?_; rotate_left; (focus (intro w hSw; (try dsimp only at hSw); go_simp; (try first | (rw [dif_pos (by omega)]; simp only [Result.andThen_ok]) | rw [if_pos (by omega)]); (try with_reducible rfl); done)); try simp only [Act.put, List.setIfInBounds_toArray, List.set_cons_zero, List.set_cons_succ])
          (refine wpAnyH_ready (rs := [14]) (by kernel_rfl) (by simp) ?_; refine ar14 (fun K hK => ?_) AllReadyH.nil; go_simp)
          refine (H64.out _).mono ?_
          rintro e w77 ⟨rfl, hb⟩
          have F77 : (fun W => Bx W0 n k l b W ∧ Cv g3 k X W ∧ Ch g18 b W) w77 := ⟨Bx.next hn hHeld.1 hb, Cv.next HX.out hHeld.2.1 hb, Ch.next hHeld.2.2 hb⟩
          clear hb
          go_wp2_with fail
          (refine hK.out _ _ F77 (fun hHeld => ?_); clear hK K; try simp only [Act.put, List.setIfInBounds_toArray, List.set_cons_zero, List.set_cons_succ])
          (refine tk15 (v := ?_) (by kernel_rfl) (by kernel_rfl) (by kernel_rfl) (fun _ _ _ h => h) (Or.inl ⟨by rfl, ?_⟩) (by assumption) ?_; rotate_left; (focus (intro w hSw; (try dsimp only at hSw); go_simp; (try first | (rw [dif_pos (by omega)]; simp only [Result.andThen_ok]) | rw [if_pos (by omega)]); (try with_reducible rfl); done)); try simp only [Act.put, List.setIfInBounds_toArray, List.set_cons_zero, List.set_cons_succ])
          (refine wpAnyH_ready (rs := [19]) (by kernel_rfl) (by simp) ?_; refine ar19 (fun K hK => ?_) AllReadyH.nil; go_simp)
          refine (HC.out g18 _ hHeld.2.2.2 hHeld.2.2.1 hHeld.1.1.2).mono ?_
          rintro e w78 ⟨rfl, hb⟩
          have F78 : (fun W => Bx W0 n k l b W ∧ Cv g3 k X W ∧ Ch g18 b W) w78 := ⟨Bx.next hn hHeld.1 hb, Cv.next HX.out hHeld.2.1 hb, Ch.next hHeld.2.2 hb⟩
          clear hb
          go_wp2_with fail
          (refine hK.out _ _ F78 (fun hHeld => ?_); clear hK K; try simp only [Act.put, List.setIfInBounds_toArray, List.set_cons_zero, List.set_cons_succ])
          (refine wpAnyH_ready (rs := [20]) (by kernel_rfl) (by simp) ?_; refine ar20 (fun K hK => ?_) AllReadyH.nil; go_simp)
          refine (H32c.out _).mono ?_
          rintro e w79 ⟨rfl, hb⟩
          have F79 : (fun W => Bx W0 n k l b W ∧ Cv g3 k X W ∧ Ch g18 b W) w79 := ⟨Bx.next hn hHeld.1 hb, Cv.next HX.out hHeld.2.1 hb, Ch.next hHeld.2.2 hb⟩
          clear hb
          go_wp2_with fail
          (refine hK.out _ _ F79 (fun hHeld => ?_); clear hK K; try simp only [Act.put, List.setIfInBounds_toArray, List.set_cons_zero, List.set_cons_succ])
          (refine tk21 (v := ?_) (by kernel_rfl) (by kernel_rfl) (by kernel_rfl) (fun _ _ _ h => h) (Or.inl ⟨by rfl, ?_⟩) (by assumption) ?_; rotate_left; (focus (intro w hSw; (try dsimp only at hSw); go_simp; (try first | (rw [dif_pos (by omega)]; simp only [Result.andThen_ok]) | rw [if_pos (by omega)]); (try with_reducible rfl); done)); try simp only [Act.put, List.setIfInBounds_toArray, List.set_cons_zero, List.set_cons_succ])
          (refine tk22 (v := ?_) (by kernel_rfl) (by kernel_rfl) (by kernel_rfl) (fun _ _ _ h => h) (Or.inl ⟨by rfl, ?_⟩) (by assumption) ?_; rotate_left; (focus (intro w hSw; (try dsimp only at hSw); go_simp; (try first | (rw [dif_pos (by omega)]; simp only [Result.andThen_ok]) | rw [if_pos (by omega)]); (try with_reducible rfl); done)); try simp only [Act.put, List.setIfInBounds_toArray, List.set_cons_zero, List.set_cons_succ])
          refine wpAnyH_done (by kernel_rfl) ?_ _
          exact Post4.here _ g3 g18 hHeld.1
        · refine (H32.out _).mono ?_
          rintro e w80 ⟨rfl, hb⟩
          have F80 : (fun W => Bx W0 n k l b W ∧ Ch g18 b W) w80 := ⟨Bx.next hn hHeld.1 hb, Ch.next hHeld.2 hb⟩
          clear hb
          go_wp2_with fail
          (refine hK.out _ _ F80 (fun hHeld => ?_); clear hK K; try simp only [Act.put, List.setIfInBounds_toArray, List.set_cons_zero, List.set_cons_succ])
          (refine wpAnyH_ready (rs := [3, 14]) (by kernel_rfl) (by simp) ?_; refine ar3 (fun K hK => ?_) (ar14 (fun K hK => ?_) AllReadyH.nil) <;> go_simp)
          · have b1 : (fun W => Bx W0 n k l b W ∧ Ch g18 b W) (w80.alloc (.cells #[.int .u8 k, .int .u8 0] 5)) := by
              have hq : (fun W => Bx W0 n k l b W ∧ Ch g18 b W) w80 := hHeld
              exact ⟨Bx.next hn hq.1 (bel_al w80 (.cells #[.int .u8 k, .int .u8 0] 5)), Ch.next hq.2 (bel_al w80 (.cells #[.int .u8 k, .int .u8 0] 5))⟩
            have c1 : Cv w80.heap.size k X (w80.alloc (.cells #[.int .u8 k, .int .u8 0] 5)) := Cv.new w80 HX.out
            generalize (w80.alloc (.cells #[.int .u8 k, .int .u8 0] 5)) = w81 at b1 c1 ⊢
            generalize w80.heap.size = g3 at c1 ⊢
            (refine hK.out _ _ b1 (fun hHeld => ?_); clear hK K; try simp only [Act.put, List.setIfInBounds_toArray, List.set_cons_zero, List.set_cons_succ])
            (refine wpAnyH_more (S' := (fun W => Bx W0 n k l b W ∧ Cv g3 k X W ∧ Ch g18 b W)) (fun W h => ⟨h.1, h.2.2⟩) _ _ _ _ ?_; replace hHeld := (show (fun W => Bx W0 n k l b W ∧ Cv g3 k X W ∧ Ch g18 b W) w81 from ⟨b1.1, c1, b1.2⟩))
            clear b1 c1
            (refine tk4 (v := ?_) (by kernel_rfl) (by kernel_rfl) (by kernel_rfl) (fun _ _ _ h => h) (Or.inl ⟨by rfl, ?_⟩) (by assumption) ?_; rotate_left; (focus (intro w hSw; (try dsimp only at hSw); go_simp; (try first | (rw [dif_pos (by omega)]; simp only [Result.andThen_ok]) | rw [if_pos (by omega)]); (try with_reducible rfl); done)); try simp only [Act.put, List.setIfInBounds_toArray, List.set_cons_zero, List.set_cons_succ])
            (refine tk5 (v := ?_) (by kernel_rfl) (by kernel_rfl) (by kernel_rfl) (fun _ _ _ h => h) (Or.inl ⟨by rfl, ?_⟩) (by assumption) ?_; rotate_left; (focus (intro w hSw; (try dsimp only at hSw); go_simp; (try first | (rw [dif_pos (by omega)]; simp only [Result.andThen_ok]) | rw [if_pos (by omega)]); (try with_reducible rfl); done)); try simp only [Act.put, List.setIfInBounds_toArray, List.set_cons_zero, List.set_cons_succ])
            (refine tk11 (v := ?_) (by kernel_rfl) (by kernel_rfl) (by kernel_rfl) (fun _ _ _ h => h) (Or.inl ⟨by rfl, ?_⟩) (by assumption) ?_; rotate_left; (focus (intro w hSw; (try dsimp only at hSw); go_simp; (try first | (rw [dif_pos (by omega)]; simp only [Result.andThen_ok]) | rw [if_pos (by omega)]); (try with_reducible rfl); done)); try simp only [Act.put, List.setIfInBounds_toArray, List.set_cons_zero, List.set_cons_succ])
            (refine wpAnyH_ready (rs := [14]) (by kernel_rfl) (by simp) ?_; refine ar14 (fun K hK => ?_) AllReadyH.nil; go_simp)
            refine (H64.out _).mono ?_
            rintro e w82 ⟨rfl, hb⟩
            have F82 : (fun W => Bx W0 n k l b W ∧ Cv g3 k X W ∧ Ch g18 b W) w82 := ⟨Bx.next hn hHeld.1 hb, Cv.next HX.out hHeld.2.1 hb, Ch.next hHeld.2.2 hb⟩
            clear hb
            go_wp2_with fail
            (refine hK.out _ _ F82 (fun hHeld => ?_); clear hK K; try simp only [Act.put, List.setIfInBounds_toArray, List.set_cons_zero, List.set_cons_succ])
            (refine tk15 (v := ?_) (by kernel_rfl) (by kernel_rfl) (by kernel_rfl) (fun _ _ _ h => h) (Or.inl ⟨by rfl, ?_⟩) (by assumption) ?_; rotate_left; (focus (intro w hSw; (try dsimp only at hSw); go_simp; (try first | (rw [dif_pos (by omega)]; simp only [Result.andThen_ok]) | rw [if_pos (by omega)]); (try with_reducible rfl); done)); try simp only [Act.put, List.setIfInBounds_toArray, List.set_cons_zero, List.set_cons_succ])
            (refine wpAnyH_ready (rs := [19]) (by kernel_rfl) (by simp) ?_; refine ar19 (fun K hK => ?_) AllReadyH.nil; go_simp)
            refine (HC.out g18 _ hHeld.2.2.2 hHeld.2.2.1 hHeld.1.1.2).mono ?_
            rintro e w83 ⟨rfl, hb⟩
            have F83 : (fun W => Bx W0 n k l b W ∧ Cv g3 k X W ∧ Ch g18 b W) w83 := ⟨Bx.next hn hHeld.1 hb, Cv.next HX.out hHeld.2.1 hb, Ch.next hHeld.2.2 hb⟩
            clear hb
            go_wp2_with fail
            (refine hK.out _ _ F83 (fun hHeld => ?_); clear hK K; try simp only [Act.put, List.setIfInBounds_toArray, List.set_cons_zero, List.set_cons_succ])
            (refine wpAnyH_ready (rs := [20]) (by kernel_rfl) (by simp) ?_; refine ar20 (fun K hK => ?_) AllReadyH.nil; go_simp)
            refine (H32c.out _).mono ?_
            rintro e w84 ⟨rfl, hb⟩
            have F84 : (fun W => Bx W0 n k l b W ∧ Cv g3 k X W ∧ Ch g18 b W) w84 := ⟨Bx.next hn hHeld.1 hb, Cv.next HX.out hHeld.2.1 hb, Ch.next hHeld.2.2 hb⟩
            clear hb
            go_wp2_with fail
            (refine hK.out _ _ F84 (fun hHeld => ?_); clear hK K; try simp only [Act.put, List.setIfInBounds_toArray, List.set_cons_zero, List.set_cons_succ])
            (refine tk21 (v := ?_) (by kernel_rfl) (by kernel_rfl) (by kernel_rfl) (fun _ _ _ h => h) (Or.inl ⟨by rfl, ?_⟩) (by assumption) ?_; rotate_left; (focus (intro w hSw; (try dsimp only at hSw); go_simp; (try first | (rw [dif_pos (by omega)]; simp only [Result.andThen_ok]) | rw [if_pos (by omega)]); (try with_reducible rfl); done)); try simp only [Act.put, List.setIfInBounds_toArray, List.set_cons_zero, List.set_cons_succ])
            (refine tk22 (v := ?_) (by kernel_rfl) (by kernel_rfl) (by kernel_rfl) (fun _ _ _ h => h) (Or.inl ⟨by rfl, ?_⟩) (by assumption) ?_; rotate_left; (focus (intro w hSw; (try dsimp only at hSw); go_simp; (try first | (rw [dif_pos (by omega)]; simp only [Result.andThen_ok]) | rw [if_pos (by omega)]); (try with_reducible rfl); done)); try simp only [Act.put, List.setIfInBounds_toArray, List.set_cons_zero, List.set_cons_succ])
            refine wpAnyH_done (by kernel_rfl) ?_ _
            exact Post4.here _ g3 g18 hHeld.1
          · refine (H64.out _).mono ?_
            rintro e w85 ⟨rfl, hb⟩
            have F85 : (fun W => Bx W0 n k l b W ∧ Ch g18 b W) w85 := ⟨Bx.next hn hHeld.1 hb, Ch.next hHeld.2 hb⟩
            clear hb
            go_wp2_with fail
            (refine hK.out _ _ F85 (fun hHeld => ?_); clear hK K; try simp only [Act.put, List.setIfInBounds_toArray, List.set_cons_zero, List.set_cons_succ])
            (refine wpAnyH_ready (rs := [3, 19]) (by kernel_rfl) (by simp) ?_; refine ar3 (fun K hK => ?_) (ar19 (fun K hK => ?_) AllReadyH.nil) <;> go_simp)
            · have b1 : (fun W => Bx W0 n k l b W ∧ Ch g18 b W) (w85.alloc (.cells #[.int .u8 k, .int .u8 0] 5)) := by
                have hq : (fun W => Bx W0 n k l b W ∧ Ch g18 b W) w85 := hHeld
                exact ⟨Bx.next hn hq.1 (bel_al w85 (.cells #[.int .u8 k, .int .u8 0] 5)), Ch.next hq.2 (bel_al w85 (.cells #[.int .u8 k, .int .u8 0] 5))⟩
              have c1 : Cv w85.heap.size k X (w85.alloc (.cells #[.int .u8 k, .int .u8 0] 5)) := Cv.new w85 HX.out
              generalize (w85.alloc (.cells #[.int .u8 k, .int .u8 0] 5)) = w86 at b1 c1 ⊢
              generalize w85.heap.size = g3 at c1 ⊢
              (refine hK.out _ _ b1 (fun hHeld => ?_); clear hK K; try simp only [Act.put, List.setIfInBounds_toArray, List.set_cons_zero, List.set_cons_succ])
              (refine wpAnyH_more (S' := (fun W => Bx W0 n k l b W ∧ Cv g3 k X W ∧ Ch g18 b W)) (fun W h => ⟨h.1, h.2.2⟩) _ _ _ _ ?_; replace hHeld := (show (fun W => Bx W0 n k l b W ∧ Cv g3 k X W ∧ Ch g18 b W) w86 from ⟨b1.1, c1, b1.2⟩))
              clear b1 c1
              (refine tk4 (v := ?_) (by kernel_rfl) (by kernel_rfl) (by kernel_rfl) (fun _ _ _ h => h) (Or.inl ⟨by rfl, ?_⟩) (by assumption) ?_; rotate_left; (focus (intro w hSw; (try dsimp only at hSw); go_simp; (try first | (rw [dif_pos (by omega)]; simp only [Result.andThen_ok]) | rw [if_pos (by omega)]); (try with_reducible rfl); done)); try simp only [Act.put, List.setIfInBounds_toArray, List.set_cons_zero, List.set_cons_succ])
              (refine tk5 (v := ?_) (by kernel_rfl) (by kernel_rfl) (by kernel_rfl) (fun _ _ _ h => h) (Or.inl ⟨by rfl, ?_⟩) (by assumption) ?_; rotate_left; (focus (intro w hSw; (try dsimp only at hSw); go_simp; (try first | (rw [dif_pos (by omega)]; simp only [Result.andThen_ok]) | rw [if_pos (by omega)]); (try with_reducible rfl); done)); try simp only [Act.put, List.setIfInBounds_toArray, List.set_cons_zero, List.set_cons_succ])
              (refine tk11 (v := ?_) (by kernel_rfl) (by kernel_rfl) (by kernel_rfl) (fun _ _ _ h => h) (Or.inl ⟨by rfl, ?_⟩) (by assumption) ?_; rotate_left; (focus (intro w hSw; (try dsimp only at hSw); go_simp; (try first | (rw [dif_pos (by omega)]; simp only [Result.andThen_ok]) | rw [if_pos (by omega)]); (try with_reducible rfl); done)); try simp only [Act.put, List.setIfInBounds_toArray, List.set_cons_zero, List.set_cons_succ])
              (refine tk15 (v := ?_) (by kernel_rfl) (by kernel_rfl) (by kernel_rfl) (fun _ _ _ h => h) (Or.inl ⟨by rfl, ?_⟩) (by assumption) ?_; rotate_left; (focus (intro w hSw; (try dsimp only at hSw); go_simp; (try first | (rw [dif_pos (by omega)]; simp only [Result.andThen_ok]) | rw [if_pos (by omega)]); (try with_reducible rfl); done)); try simp only [Act.put, List.setIfInBounds_toArray, List.set_cons_zero, List.set_cons_succ])
              (refine wpAnyH_ready (rs := [19]) (by kernel_rfl) (by simp) ?_; refine ar19 (fun K hK => ?_) AllReadyH.nil; go_simp)
              refine (HC.out g18 _ hHeld.2.2.2 hHeld.2.2.1 hHeld.1.1.2).mono ?_
              rintro e w87 ⟨rfl, hb⟩
              have F87 : (fun W => Bx W0 n k l b W ∧ Cv g3 k X W ∧ Ch g18 b W) w87 := ⟨Bx.next hn hHeld.1 hb, Cv.next HX.out hHeld.2.1 hb, Ch.next hHeld.2.2 hb⟩
              clear hb
              go_wp2_with fail
              (refine hK.out _ _ F87 (fun hHeld => ?_); clear hK K; try simp only [Act.put, List.setIfInBounds_toArray, List.set_cons_zero, List.set_cons_succ])
              (refine wpAnyH_ready (rs := [20]) (by kernel_rfl) (by simp) ?_; refine ar20 (fun K hK => ?_) AllReadyH.nil; go_simp)
              refine (H32c.out _).mono ?_
              rintro e w88 ⟨rfl, hb⟩
              have F88 : (fun W => Bx W0 n k l b W ∧ Cv g3 k X W ∧ Ch g18 b W) w88 := ⟨Bx.next hn hHeld.1 hb, Cv.next HX.out hHeld.2.1 hb, Ch.next hHeld.2.2 hb⟩
              clear hb
              go_wp2_with fail
              (refine hK.out _ _ F88 (fun hHeld => ?_); clear hK K; try simp only [Act.put, List.setIfInBounds_toArray, List.set_cons_zero, List.set_cons_succ])
              (refine tk21 (v := ?_) (by kernel_rfl) (by kernel_rfl) (by kernel_rfl) (fun _ _ _ h => h) (Or.inl ⟨by rfl, ?_⟩) (by assumption) ?_; rotate_left; (focus (intro w hSw; (try dsimp only at hSw); go_simp; (try first | (rw [dif_pos (by omega)]; simp only [Result.andThen_ok]) | rw [if_pos (by omega)]); (try with_reducible rfl); done)); try simp only [Act.put, List.setIfInBounds_toArray, List.set_cons_zero, List.set_cons_succ])
              (refine tk22 (v := ?_) (by kernel_rfl) (by kernel_rfl) (by kernel_rfl) (fun _ _ _ h => h) (Or.inl ⟨by rfl, ?_⟩) (by assumption) ?_; rotate_left; (focus (intro w hSw; (try dsimp only at hSw); go_simp; (try first | (rw [dif_pos (by omega)]; simp only [Result.andThen_ok]) | rw [if_pos (by omega)]); (try with_reducible rfl); done)); try simp only [Act.put, List.setIfInBounds_toArray, List.set_cons_zero, List.set_cons_succ])
              refine wpAnyH_done (by kernel_rfl) ?_ _
              exact Post4.here _ g3 g18 hHeld.1
            · refine (HC.out g18 _ hHeld.2.2 hHeld.2.1 hHeld.1.1.2).mono ?_
              rintro e w89 ⟨rfl, hb⟩
              have F89 : (fun W => Bx W0 n k l b W ∧ Ch g18 b W) w89 := ⟨Bx.next hn hHeld.1 hb, Ch.next hHeld.2 hb⟩
              clear hb
              go_wp2_with fail
              (refine hK.out _ _ F89 (fun hHeld => ?_); clear hK K; try simp only [Act.put, List.setIfInBounds_toArray, List.set_cons_zero, List.set_cons_succ])
              (refine wpAnyH_ready (rs := [3, 20]) (by kernel_rfl) (by simp) ?_; refine ar3 (fun K hK => ?_) (ar20 (fun K hK => ?_) AllReadyH.nil) <;> go_simp)
              · have b1 : (fun W => Bx W0 n k l b W ∧ Ch g18 b W) (w89.alloc (.cells #[.int .u8 k, .int .u8 0] 5)) := by
                  have hq : (fun W => Bx W0 n k l b W ∧ Ch g18 b W) w89 := hHeld
                  exact ⟨Bx.next hn hq.1 (bel_al w89 (.cells #[.int .u8 k, .int .u8 0] 5)), Ch.next hq.2 (bel_al w89 (.cells #[.int .u8 k, .int .u8 0] 5))⟩
                have c1 : Cv w89.heap.size k X (w89.alloc (.cells #[.int .u8 k, .int .u8 0] 5)) := Cv.new w89 HX.out
                generalize (w89.alloc (.cells #[.int .u8 k, .int .u8 0] 5)) = w90 at b1 c1 ⊢
                generalize w89.heap.size = g3 at c1 ⊢
                (refine hK.out _ _ b1 (fun hHeld => ?_); clear hK K; try simp only [Act.put, List.setIfInBounds_toArray, List.set_cons_zero, List.set_cons_succ])
                (refine wpAnyH_more (S' := (fun W => Bx W0 n k l b W ∧ Cv g3 k X W ∧ Ch g18 b W)) (fun W h => ⟨h.1, h.2.2⟩) _ _ _ _ ?_; replace hHeld := (show (fun W => Bx W0 n k l b W ∧ Cv g3 k X W ∧ Ch g18 b W) w90 from ⟨b1.1, c1, b1.2⟩))
                clear b1 c1
                (refine tk4 (v := ?_) (by kernel_rfl) (by kernel_rfl) (by kernel_rfl) (fun _ _ _ h => h) (Or.inl ⟨by rfl, ?_⟩) (by assumption) ?_; rotate_left; (focus (intro w hSw; (try dsimp only at hSw); go_simp; (try first | (rw [dif_pos (by omega)]; simp only [Result.andThen_ok]) | rw [if_pos (by omega)]); (try with_reducible rfl); done)); try simp only [Act.put, List.setIfInBounds_toArray, List.set_cons_zero, List.set_cons_succ])
                (refine tk5 (v := ?_) (by kernel_rfl) (by kernel_rfl) (by kernel_rfl) (fun _ _ _ h => h) (Or.inl ⟨by rfl, ?_⟩) (by assumption) ?_; rotate_left; (focus (intro w hSw; (try dsimp only at hSw); go_simp; (try first | (rw [dif_pos (by omega)]; simp only [Result.andThen_ok]) | rw [if_pos (by omega)]); (try with_reducible rfl); done)); try simp only [Act.put, List.setIfInBounds_toArray, List.set_cons_zero, List.set_cons_succ])
                (refine tk11 (v := ?_) (by kernel_rfl) (by kernel_rfl) (by kernel_rfl) (fun _ _ _ h => h) (Or.inl ⟨by rfl, ?_⟩) (by assumption) ?_; rotate_left; (focus (intro w hSw; (try dsimp only at hSw); go_simp; (try first | (rw [dif_pos (by omega)]; simp only [Result.andThen_ok]) | rw [if_pos (by omega)]); (try with_reducible rfl); done)); try simp only [Act.put, List.setIfInBounds_toArray, List.set_cons_zero, List.set_cons_succ])
                (refine tk15 (v := ?_) (by kernel_rfl) (by kernel_rfl) (by kernel_rfl) (fun _ _ _ h => h) (Or.inl ⟨by rfl, ?_⟩) (by assumption) ?_; rotate_left; (focus (intro w hSw; (try dsimp only at hSw); go_simp; (try first | (rw [dif_pos (by omega)]; simp only [Result.andThen_ok]) | rw [if_pos (by omega)]); (try with_reducible rfl); done)); try simp only [Act.put, List.setIfInBounds_toArray, List.set_cons_zero, List.set_cons_succ])
                (refine wpAnyH_ready (rs := [20]) (by kernel_rfl) (by simp) ?_; refine ar20 (fun K hK => ?_) AllReadyH.nil; go_simp)
                refine (H32c.out _).mono ?_
                rintro e w91 ⟨rfl, hb⟩
                have F91 : (fun W => Bx W0 n k l b W ∧ Cv g3 k X W ∧ Ch g18 b W) w91 := ⟨Bx.next hn hHeld.1 hb, Cv.next HX.out hHeld.2.1 hb, Ch.next hHeld.2.2 hb⟩
                clear hb
                go_wp2_with fail
                (refine hK.out _ _ F91 (fun hHeld => ?_); clear hK K; try simp only [Act.put, List.setIfInBounds_toArray, List.set_cons_zero, List.set_cons_succ])
                (refine tk21 (v := ?_) (by kernel_rfl) (by kernel_rfl) (by kernel_rfl) (fun _ _ _ h => h) (Or.inl ⟨by rfl, ?_⟩) (by assumption) ?_; rotate_left; (focus (intro w hSw; (try dsimp only at hSw); go_simp; (try first | (rw [dif_pos (by omega)]; simp only [Result.andThen_ok]) | rw [if_pos (by omega)]); (try with_reducible rfl); done)); try simp only [Act.put, List.setIfInBounds_toArray, List.set_cons_zero, List.set_cons_succ])
                (refine tk22 (v := ?_) (by kernel_rfl) (by kernel_rfl) (by kernel_rfl) (fun _ _ _ h => h) (Or.inl ⟨by rfl, ?_⟩) (by assumption) ?_; rotate_left; (focus (intro w hSw; (try dsimp only at hSw); go_simp; (try first | (rw [dif_pos (by omega)]; simp only [Result.andThen_ok]) | rw [if_pos (by omega)]); (try with_reducible rfl); done)); try simp only [Act.put, List.setIfInBounds_toArray, List.set_cons_zero, List.set_cons_succ])
                refine wpAnyH_done (by kernel_rfl) ?_ _
                exact Post4.here _ g3 g18 hHeld.1
              · refine (H32c.out _).mono ?_
                rintro e w92 ⟨rfl, hb⟩
                have F92 : (fun W => Bx W0 n k l b W ∧ Ch g18 b W) w92 := ⟨Bx.next hn hHeld.1 hb, Ch.next hHeld.2 hb⟩
                clear hb
                go_wp2_with fail
                (refine hK.out _ _ F92 (fun hHeld => ?_); clear hK K; try simp only [Act.put, List.setIfInBounds_toArray, List.set_cons_zero, List.set_cons_succ])
                (refine wpAnyH_ready (rs := [3]) (by kernel_rfl) (by simp) ?_; refine ar3 (fun K hK => ?_) AllReadyH.nil; go_simp)
                have b1 : (fun W => Bx W0 n k l b W ∧ Ch g18 b W) (w92.alloc (.cells #[.int .u8 k, .int .u8 0] 5)) := by
                  have hq : (fun W => Bx W0 n k l b W ∧ Ch g18 b W) w92 := hHeld
                  exact ⟨Bx.next hn hq.1 (bel_al w92 (.cells #[.int .u8 k, .int .u8 0] 5)), Ch.next hq.2 (bel_al w92 (.cells #[.int .u8 k, .int .u8 0] 5))⟩
                have c1 : Cv w92.heap.size k X (w92.alloc (.cells #[.int .u8 k, .int .u8 0] 5)) := Cv.new w92 HX.out
                generalize (w92.alloc (.cells #[.int .u8 k, .int .u8 0] 5)) = w93 at b1 c1 ⊢
                generalize w92.heap.size = g3 at c1 ⊢
                (refine hK.out _ _ b1 (fun hHeld => ?_); clear hK K; try simp only [Act.put, List.setIfInBounds_toArray, List.set_cons_zero, List.set_cons_succ])
                (refine wpAnyH_more (S' := (fun W => Bx W0 n k l b W ∧ Cv g3 k X W ∧ Ch g18 b W)) (fun W h => ⟨h.1, h.2.2⟩) _ _ _ _ ?_; replace hHeld := (show (fun W => Bx W0 n k l b W ∧ Cv g3 k X W ∧ Ch g18 b W) w93 from ⟨b1.1, c1, b1.2⟩))
                clear b1 c1
                (refine tk4 (v := ?_) (by kernel_rfl) (by kernel_rfl) (by kernel_rfl) (fun _ _ _ h => h) (Or.inl ⟨by rfl, ?_⟩) (by assumption) ?_; rotate_left; (focus (intro w hSw; (try dsimp only at hSw); go_simp; (try first | (rw [dif_pos (by omega)]; simp only [Result.andThen_ok]) | rw [if_pos (by omega)]); (try with_reducible rfl); done)); try simp only [Act.put, List.setIfInBounds_toArray, List.set_cons_zero, List.set_cons_succ])
                (refine tk5 (v := ?_) (by kernel_rfl) (by kernel_rfl) (by kernel_rfl) (fun _ _ _ h => h) (Or.inl ⟨by rfl, ?_⟩) (by assumption) ?_; rotate_left; (focus (intro w hSw; (try dsimp only at hSw); go_simp; (try first | (rw [dif_pos (by omega)]; simp only [Result.andThen_ok]) | rw [if_pos (by omega)]); (try with_reducible rfl); done)); try simp only [Act.put, List.setIfInBounds_toArray, List.set_cons_zero, List.set_cons_succ])
                (refine tk11 (v := ?_) (by kernel_rfl) (by kernel_rfl) (by kernel_rfl) (fun _ _ _ h => h) (Or.inl ⟨by rfl, ?_⟩) (by assumption) ?_; rotate_left; (focus (intro w hSw; (try dsimp only at hSw); go_simp; (try first | (rw [dif_pos (by omega)]; simp only [Result.andThen_ok]) | rw [if_pos (by omega)]); (try with_reducible rfl); done)); try simp only [Act.put, List.setIfInBounds_toArray, List.set_cons_zero, List.set_cons_succ])
                (refine tk15 (v := ?_) (by kernel_rfl) (by kernel_rfl) (by kernel_rfl) (fun _ _ _ h => h) (Or.inl ⟨by rfl, ?_⟩) (by assumption) ?_; rotate_left; (focus (intro w hSw; (try dsimp only at hSw); go_simp; (try first | (rw [dif_pos (by omega)]; simp only [Result.andThen_ok]) | rw [if_pos (by omega)]); (try with_reducible rfl); done)); try simp only [Act.put, List.setIfInBounds_toArray, List.set_cons_zero, List.set_cons_succ])
                (refine tk21 (v := ?_) (by kernel_rfl) (by kernel_rfl) (by kernel_rfl) (fun _ _ _ h => h) (Or.inl ⟨by rfl, ?_⟩) (by assumption) ?_; rotate_left; (focus (intro w hSw; (try dsimp only at hSw); go_simp; (try first | (rw [dif_pos (by omega)]; simp only [Result.andThen_ok]) | rw [if_pos (by omega)]); (try with_reducible rfl); done)); try simp only [Act.put, List.setIfInBounds_toArray, List.set_cons_zero, List.set_cons_succ])
                (refine tk22 (v := ?_) (by kernel_rfl) (by kernel_rfl) (by kernel_rfl) (fun _ _ _ h => h) (Or.inl ⟨by rfl, ?_⟩) (by assumption) ?_; rotate_left; (focus (intro w hSw; (try dsimp only at hSw); go_simp; (try first | (rw [dif_pos (by omega)]; simp only [Result.andThen_ok]) | rw [if_pos (by omega)]); (try with_reducible rfl); done)); try simp only [Act.put, List.setIfInBounds_toArray, List.set_cons_zero, List.set_cons_succ])
                refine wpAnyH_done (by kernel_rfl) ?_ _
                exact Post4.here _ g3 g18 hHeld.1
    · intro g h w1 hB
      go_wp2_with fail
      go_region_held3 (fun W => Bx W0 n k l b W) (first | assumption | exact Bx.next hn (by assumption) (bel_dr _)) (first | (go_at_call 16; refine (HSm.out W0 n _ hn (by first | assumption | exact Bx.next hn (by assumption) (bel_dr _))).mono ?_; rintro e w7 ⟨rfl, BT⟩))
      go_wp2
      go_ret2
      exact ⟨by rw [HE.out]; rfl, HBw.out.trans (BT.1.1.mono HBw.out.size)⟩
  · have hf : mayFr k l (b.size : Nat) = false := by simpa using hm
    rw [hf] at HMm
    have HE : Hid (enF k l b = (⟨#[]⟩, 110)) := by show _ = _; unfold enF; rw [if_neg hm]; rfl
    have HBw : Hid (∀ o, Below w.heap.size w (w.alloc o)) := fun o => bel_al w o
    clear hm hf hT
    go_enter Tryd.func7, Tryd.ntmps7
    go_wp2_with fail
    refine (HMm.out _).mono ?_
    rintro e w1 ⟨rfl, rfl⟩
    go_wp2
    go_ret2
    exact ⟨by rw [HE.out]; rfl, HBw.out _⟩
end Go.Proofs.YtlnpeicflofkjaaDoor
