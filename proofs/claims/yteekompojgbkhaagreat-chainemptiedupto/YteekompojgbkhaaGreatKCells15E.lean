import Derived.Test.YteekompojgbkhaaGreatKCells3E
import Derived.Test.YteekompojgbkhaaGreatKCells14E
namespace Go.Proofs.YteekompojgbkhaaGreat
open Go.ChangeShapes Go.WideShapes Go.ChangeAt Go.RowKit
set_option linter.unusedVariables false
theorem infoP : (Tryz.prog.info? 215).map (fun i => (i.zero, i.size, i.bytes)) = some (some (.agg #[.int .u32 0, .string ⟨#[]⟩, .string ⟨#[]⟩, .int .i64 0, .int .i64 0]), 5, 56) := by kernel_rfl
theorem Made.fill {w W : World} {s u n wd : Nat} (h : Made w s u n wd W) (h1 : 1 ≤ n) (h2 : n ≤ 4096) (h3 : 1 ≤ wd) (h4 : wd ≤ 16) : Calls Tryz.prog 57 #[.pointer (some ⟨w.heap.size + 2, 9, none⟩), .int .i64 (n : Int)] W fun e w' => e = .returned (.tuple #[]) ∧ Hid (Holds w' ⟨w.heap.size + 2, s, u, w.heap.size + 3⟩ (.fresh n wd) ∧ Below w.heap.size w w') := by
  have hsz := h.size
  refine (fill_any (w.heap.size + 2) 9 n W (by omega) (by omega) (by omega) ((cell?_heap h.a _).trans rfl) ((cell?_heap h.a _).trans rfl) ((cell?_heap h.a _).trans rfl) (frozen?_heap h.a _) (frozen?_heap h.a _)).mono ?_
  rintro e w' ⟨rfl, hf⟩
  exact ⟨rfl, h.holds ⟨h1, h2⟩ ⟨h3, h4⟩ hf⟩
set_option maxRecDepth 100000 in
set_option maxHeartbeats 1600000 in
theorem new_ok (n wd : Nat) (w : World) (h1 : 1 ≤ n) (h2 : n ≤ 4096) (h3 : 1 ≤ wd) (h4 : wd ≤ 16) : Calls Tryz.prog 34 #[.int .i64 (n : Int), .int .i64 (wd : Int)] w fun e w' => ∃ s u, e = .returned (.tuple #[.pointer (some ⟨w.heap.size + 2, 0, none⟩), .int .i64 0]) ∧ (s = w.heap.size ∧ u = w.heap.size + 1 ∨ s = w.heap.size + 1 ∧ u = w.heap.size) ∧ Holds w' ⟨w.heap.size + 2, s, u, w.heap.size + 3⟩ (.fresh n wd) ∧ Below w.heap.size w w' := by
  have i1 : ¬ (n : Int) < 1 := by omega
  have i2 : ¬ (n : Int) > 4096 := by omega
  have i3 : ¬ (wd : Int) < 1 := by omega
  have i4 : ¬ (wd : Int) > 16 := by omega
  have hnw : n * wd ≤ 65536 := Nat.le_trans (Nat.mul_le_mul h2 h4) (by decide)
  have hm1 := run_make_any (P := Tryz.prog) 121 215 _ 5 56 Tryz.underlying121 infoP n (by omega) (by omega)
  have hm2 := run_make_any (P := Tryz.prog) 122 148 _ 1 8 Tryz.underlying122 infoU (n * wd) (by omega) (by omega)
  have hw : IntKind.i64.wrap ((n : Int) * (wd : Int)) = ((n * wd : Nat) : Int) := by rw [IntKind.wrap_i64, ← Int.natCast_mul]; omega
  have HM1 : Hid (Made w _ _ n wd _) := Made.one w n wd
  have HM2 : Hid (Made w _ _ n wd _) := Made.two w n wd
  rw [Int.natCast_mul] at hw hm2
  go_enter Tryz.func34, Tryz.ntmps34
  go_wp2_with fail
  refine wp_twice ?_
  refine ⟨?_, ?_, ?_, ?_, ?_, ?_, ?_⟩
  rotate_left 4
  · go_region_with (fail)
    all_goals first | exact Post2.one _ _ _ _ | exact Post2.two _ _ _ _
  · clear hm1 hm2 hw hnw HM2
    go_wp2_with fail
    refine (HM1.out.fill h1 h2 h3 h4).mono ?_
    rintro e w' ⟨rfl, HF⟩
    clear HM1
    go_wp2
    go_ret2
    exact ⟨_, _, rfl, Or.inl ⟨rfl, rfl⟩, HF.out.1, HF.out.2⟩
  · clear hm1 hm2 hw hnw HM1
    go_wp2_with fail
    refine (HM2.out.fill h1 h2 h3 h4).mono ?_
    rintro e w' ⟨rfl, HF⟩
    clear HM2
    go_wp2
    go_ret2
    exact ⟨_, _, rfl, Or.inr ⟨rfl, rfl⟩, HF.out.1, HF.out.2⟩
end Go.Proofs.YteekompojgbkhaaGreat

namespace Go.Proofs.YteekompojgbkhaaGreat
open Go.ChangeShapes Go.WideShapes Go.ChangeAt Go.RowKit
set_option linter.unusedVariables false

/-- The slice value v holds the numbers vs, in blocks below B. -/
def SeesI (w : World) (B : Nat) (v : Value) (vs : List Int) : Prop :=
  ∃ ao cap, v = .slice ao vs.length cap ∧ vs.length ≤ cap ∧ vs.length ≤ 140737488355328 ∧ (∀ i (hi : i < vs.length), ∃ b off, ao = some ⟨b, off, none⟩ ∧ b < B ∧ w.cell? ⟨b, off + i, none⟩ = some (.int .i64 vs[i]))
theorem SeesI.later {w w' : World} {B : Nat} {v : Value} {vs : List Int} (h : SeesI w B v vs) (hb : Below B w w') : SeesI w' B v vs := by
  obtain ⟨ao, cap, rfl, h1, h2, h3⟩ := h
  refine ⟨ao, cap, rfl, h1, h2, fun i hi => ?_⟩
  obtain ⟨b, off, e, hbB, c0⟩ := h3 i hi
  exact ⟨b, off, e, hbB, by rw [hb.cell hbB]; exact c0⟩
/-- The slice value v holds just the numbers xs, in a row of the call's own (blocks from B on). -/
def ownI (w : World) (B : Nat) (v : Value) (xs : List Int) : Prop := w.ownsRow B 3 1 v xs.length (xs.map (Value.int .i64))
theorem ownI_nil (w : World) (B : Nat) : ownI w B (.slice none 0 0) [] := World.ownsRow_nil _ _ _ _
theorem ownI.drew {w : World} {B : Nat} {v : Value} {xs : List Int} (h : ownI w B v xs) : ownI w.drew B v xs := World.ownsRow.drew h
theorem ownsRow_of_block {w w' : World} {B : Nat} {e : TypeId} {size : Nat} {v : Value} {n : Nat} {xs : List Value} (h : w.ownsRow B e size v n xs) (hk : ∀ g, v.ownBlock = some g → w'.heap[g]? = w.heap[g]?) : w'.ownsRow B e size v n xs := by
  refine ⟨h.1, ?_⟩
  rcases h.2 with h1 | ⟨g, cap, cur, rfl, h1, h2, h3⟩
  · exact Or.inl h1
  · exact Or.inr ⟨g, cap, cur, rfl, h1, (hk g rfl).trans h2, h3⟩
theorem ownI.keeps {w w' : World} {B : Nat} {v : Value} {xs : List Int} {P : Nat → Prop} (h : ownI w B v xs) (hk : Keeps P w w') (hP : ∀ g, B ≤ g → ¬ P g) : ownI w' B v xs :=
  ownsRow_of_block h (fun g hg => by obtain ⟨h1, h2⟩ := World.ownsRow.lt h g hg; exact hk.block g h2 (hP g h1))
theorem ownI.form {w : World} {B : Nat} {v : Value} {xs : List Int} (h : ownI w B v xs) : ∃ sp cap, v = .slice sp xs.length cap ∧ ∀ i (hi : i < xs.length), ∃ g, sp = some ⟨g, 0, none⟩ ∧ w.cell? ⟨g, i, none⟩ = some (.int .i64 xs[i]) := by
  rcases h.2 with ⟨rfl, hn⟩ | ⟨g, cap, cur, rfl, h1, h2, h3⟩
  · exact ⟨none, 0, by rw [hn], fun i hi => by omega⟩
  · refine ⟨some ⟨g, 0, none⟩, cap, rfl, fun i hi => ⟨g, rfl, ?_⟩⟩
    have := World.ownsRow.cellAt (g := g) (cap := cap) h i (by omega)
    rw [this]
    simp [List.getElem?_eq_getElem hi]

theorem infoW : (Tryz.prog.info? 104).map (fun i => (i.zero, i.size, i.bytes)) = some (some (.int .u64 0), 1, 8) := by kernel_rfl
/-- The slice value v holds just the numbers xs, in a row of the call's own (blocks from B on). -/
def ownU (w : World) (B : Nat) (v : Value) (xs : List Int) : Prop := w.ownsRow B 104 1 v xs.length (xs.map (Value.int .u64))
theorem ownU.drew {w : World} {B : Nat} {v : Value} {xs : List Int} (h : ownU w B v xs) : ownU w.drew B v xs := World.ownsRow.drew h
theorem ownU.keeps {w w' : World} {B : Nat} {v : Value} {xs : List Int} {P : Nat → Prop} (h : ownU w B v xs) (hk : Keeps P w w') (hP : ∀ g, B ≤ g → ¬ P g) : ownU w' B v xs :=
  ownsRow_of_block h (fun g hg => by obtain ⟨h1, h2⟩ := World.ownsRow.lt h g hg; exact hk.block g h2 (hP g h1))
theorem ownU.form {w : World} {B : Nat} {v : Value} {xs : List Int} (h : ownU w B v xs) : ∃ sp cap, v = .slice sp xs.length cap ∧ ∀ i (hi : i < xs.length), ∃ g, sp = some ⟨g, 0, none⟩ ∧ w.cell? ⟨g, i, none⟩ = some (.int .u64 xs[i]) := by
  rcases h.2 with ⟨rfl, hn⟩ | ⟨g, cap, cur, rfl, h1, h2, h3⟩
  · exact ⟨none, 0, by rw [hn], fun i hi => by omega⟩
  · refine ⟨some ⟨g, 0, none⟩, cap, rfl, fun i hi => ⟨g, rfl, ?_⟩⟩
    have := World.ownsRow.cellAt (g := g) (cap := cap) h i (by omega)
    rw [this]
    simp [List.getElem?_eq_getElem hi]


end Go.Proofs.YteekompojgbkhaaGreat

namespace Go.Proofs.YteekompojgbkhaaGreat
open Go.ChangeShapes Go.WideShapes Go.ChangeAt Go.RowKit Go.MuLone Go.RwLone
set_option linter.unusedVariables false
set_option maxRecDepth 100000
set_option maxHeartbeats 1600000
theorem peek_no (L : Lay) (S : AS) (w : World) (x : Int) (h : Holds w L S) (hg : S.g0 = 0) (hr : S.rc = 0) (hx : ¬ S.live x) : Calls Tryz.prog 83 #[.pointer (some ⟨L.b, 0, none⟩), .int .i64 x] w fun e w' => e = .returned (.tuple #[.slice none 0 0, .int .i64 22]) ∧ Holds w' L { S with g0 := 0, rc := 0 } ∧ Keeps L.has w w' := by
  have H : Hid (Holds w L S) := h
  have HI : Hid (∀ W, Holds W L { S with g0 := 1, rc := -1073741824 } → Calls Tryz.prog 130 #[.pointer (some ⟨L.b, 0, none⟩), .int .i64 x] W fun e w' => e = .returned (.tuple #[.pointer none, .int .i64 22]) ∧ w' = W) := by
    intro W hW
    rcases S.live_or x with h1 | ⟨k, hk, rfl⟩
    · exact inUse_no L { S with g0 := 1, rc := -1073741824 } W x hW h1
    · have hu : S.use k = false := by
        cases hu : S.use k
        · rfl
        · exact absurd ⟨k, hk, rfl, hu⟩ hx
      exact inUse_not L { S with g0 := 1, rc := -1073741824 } W k hk hu hW
  clear h
  go_enter_defers Tryz.func83, Tryz.ntmps83
  go_wp2_with fail
  refine (missing_holds2 H.out).mono ?_
  rintro e w' ⟨rfl, rfl⟩
  go_wp2_with fail
  refine (gate_lock H.out hg hr).mono ?_
  rintro e w1 ⟨rfl, h1, k1⟩
  have H1 : Hid (Holds w1 L { S with g0 := 1, rc := -1073741824 } ∧ Keeps L.has w' w1) := ⟨h1, k1⟩
  clear h1 k1 H
  go_wp2_with fail
  refine (HI.out w1 H1.out.1).mono ?_
  rintro e w2 ⟨rfl, rfl⟩
  go_wp2_with fail
  refine leaves_cons (f := 129) (args := #[.pointer (some ⟨L.b, 3, none⟩)]) (by simp) (by simp [go_sem]) ?_
  refine (gate_unlockD H1.out.1 rfl rfl .returning).mono ?_
  rintro e u' w3 ⟨rfl, rfl, h3, k3⟩
  exact ⟨_, results_tmp2 rfl _ _ _, rfl, h3, H1.out.2.trans k3⟩
/-- A row of words that is being filled: t of wd. -/
structure PeekS (w : World) (L : Lay) (S : AS) (k g t : Nat) (wr : World) : Prop where
  h : Holds wr L S
  kp : Keeps L.has w wr
  g0 : w.heap.size ≤ g
  g1 : g < wr.heap.size
  lo : ∀ i, i < t → wr.cell? ⟨g, i, none⟩ = some (.int .u64 (S.word (k * S.wd + i)))
  hi : ∀ i, t ≤ i → i < S.wd → wr.cell? ⟨g, i, none⟩ = some (.int .u64 0)
  fz : ∀ i, wr.frozen? ⟨g, i, none⟩ = false
theorem PeekS.start {w w1 : World} {L : Lay} {S : AS} {k : Nat} (h : Holds w1 L S) (hk : Keeps L.has w w1) : PeekS w L S k w1.heap.size 0 (w1.alloc (.cells (madeCells #[.int .u64 0] S.wd) 104)) := by
  have hg := heap_alloc_new w1 (.cells (madeCells #[.int .u64 0] S.wd) 104)
  refine ⟨h.alloc _, hk.alloc _, hk.size, by simp, fun i hi => by omega, fun i _ hi => ?_, fun i => frozen?_heap hg i⟩
  rw [cell?_heap hg, getElem?_made _ _ _ hi]
  simp [Nat.mod_one]
theorem PeekS.put {w wr : World} {L : Lay} {S : AS} {k g t : Nat} (h : PeekS w L S k g t wr) (hn : ¬ L.has g) (ht : t < S.wd) : PeekS w L S k g (t + 1) (wr.setCell ⟨g, t, none⟩ (.int .u64 (S.word (k * S.wd + t)))) := by
  refine ⟨h.h.far (p := ⟨g, t, none⟩) hn _, h.kp.setCellNew (p := ⟨g, t, none⟩) h.g0 _, h.g0, by simpa using h.g1, fun i hi => ?_, fun i hi hd => ?_, fun i => by simpa using h.fz i⟩
  · by_cases e : i = t
    · subst e
      exact World.cell?_setCell_same _ _ _ (h.hi i (Nat.le_refl _) ht)
    · rw [World.cell?_setCell_other _ _ _ _ (fun e' => e (congrArg Addr.off e').symm)]
      exact h.lo i (by omega)
  · rw [World.cell?_setCell_other _ _ _ _ (fun e' => by have := congrArg Addr.off e'; simp at this; omega)]
    exact h.hi i (by omega) hd
theorem peek_ok (L : Lay) (S : AS) (w : World) (k : Nat) (h : Holds w L S) (hg : S.g0 = 0) (hr : S.rc = 0) (hk : k < S.n) (hu : S.use k = true) : Calls Tryz.prog 83 #[.pointer (some ⟨L.b, 0, none⟩), .int .i64 ((k : Int) + 1)] w fun e w' => ∃ g, e = .returned (.tuple #[.slice (some ⟨g, 0, none⟩) S.wd S.wd, .int .i64 0]) ∧ PeekS w L { S with g0 := 0, rc := 0 } k g S.wd w' := by
  have H : Hid (Holds w L S) := h
  have hwd := h.hw.2
  have hwl := h.hw.1
  have hN : k * S.wd + S.wd ≤ S.n * S.wd := by rw [← Nat.succ_mul]; exact Nat.mul_le_mul_right _ hk
  clear h
  go_enter_defers Tryz.func83, Tryz.ntmps83
  go_wp2_with fail
  refine (missing_holds2 H.out).mono ?_
  rintro e w' ⟨rfl, rfl⟩
  go_wp2_with fail
  refine (gate_lock H.out hg hr).mono ?_
  rintro e w1 ⟨rfl, h1, k1⟩
  have H1 : Hid (Holds w1 L { S with g0 := 1, rc := -1073741824 } ∧ Keeps L.has w' w1) := ⟨h1, k1⟩
  clear h1 k1
  go_wp2_with fail
  refine (inUse_yes L { S with g0 := 1, rc := -1073741824 } w1 k hk hu H1.out.1).mono ?_
  rintro e w2 ⟨rfl, rfl⟩
  go_wp2_with fail
  refine (cellsOf_any L { S with g0 := 1, rc := -1073741824 } w2 k hk H1.out.1).mono ?_
  rintro e w3 ⟨rfl, rfl⟩
  have hmk := run_make_any (P := Tryz.prog) 151 104 _ 1 8 Tryz.underlying151 infoW S.wd (by omega) (by omega) w2.drew
  rw [Nat.mul_one] at hmk
  have HP : Hid (PeekS w' L { S with g0 := 1, rc := -1073741824 } k w2.drew.heap.size 0 _) := PeekS.start H1.out.1.drew H1.out.2.drew
  have HW : Hid (Holds w' L { S with g0 := 0, rc := 0 }) := by
    have := H.out
    rw [show ({ S with g0 := 0, rc := 0 } : AS) = S from by cases S; simp only at hg hr; subst hg; subst hr; rfl]
    exact this
  clear H1 H
  have HN : Hid (¬ L.has w2.drew.heap.size) := HW.out.notNew HP.out.g0
  clear HW
  go_wp2_with fail
  rw [show w2.drew.heap.size = w2.heap.size from rfl] at HP HN
  generalize w2.heap.size = g at *
  go_loopw [37] (fun i wr => ∃ t : Nat, t ≤ S.wd ∧ i = .int .i64 t ∧ PeekS w' L { S with g0 := 1, rc := -1073741824 } k g t wr) (fun i _ => S.wd - (intOf i).toNat)
  case atStart => exact ⟨0, by omega, rfl, HP.out⟩
  case round =>
    obtain ⟨t, ht, rfl, hS⟩ := hrel
    have HS : Hid (PeekS w' L { S with g0 := 1, rc := -1073741824 } k g t wr) := hS
    clear hS HP hmk
    by_cases h4 : t < S.wd
    · have hc := HS.out.hi t (Nat.le_refl _) h4
      have hz := HS.out.fz t
      have HX : Hid (PeekS w' L { S with g0 := 1, rc := -1073741824 } k g (t + 1) _) := HS.out.put HN.out h4
      have HL : Hid (Calls Tryz.prog 82 #[.pointer (some ⟨L.u, k * S.wd + t, none⟩)] wr fun e w' => e = .returned (.int .u64 (S.word (k * S.wd + t))) ∧ w' = wr) := u64_load _ _ wr (HS.out.h.wo (k * S.wd + t) (by show _ < S.n * S.wd; omega))
      clear hN
      go_wp2_with fail
      refine HL.out.mono ?_
      rintro e w5 ⟨rfl, rfl⟩
      clear HS HL
      go_wp2
      go_roundw
      case rel => exact ⟨t + 1, by omega, by go_num, HX.out⟩
      case measure => simp [intOf]; omega
    · have e4 : t = S.wd := by omega
      subst e4
      go_wp2_with fail
      refine leaves_cons (f := 129) (args := #[.pointer (some ⟨L.b, 3, none⟩)]) (by simp) (by simp [go_sem]) ?_
      refine (gate_unlockD HS.out.h rfl rfl .returning).mono ?_
      rintro e u' w6 ⟨rfl, rfl, h6, k6⟩
      refine ⟨_, results_tmp2 rfl _ _ _, g, rfl, h6, HS.out.kp.trans k6, HS.out.g0, Nat.lt_of_lt_of_le HS.out.g1 k6.size, fun i hi => (k6.cell (p := ⟨g, i, none⟩) HS.out.g1 HN.out).trans (HS.out.lo i hi), fun i hi hd => (k6.cell (p := ⟨g, i, none⟩) HS.out.g1 HN.out).trans (HS.out.hi i hi hd), fun i => (k6.frozen (p := ⟨g, i, none⟩) HS.out.g1 HN.out).trans (HS.out.fz i)⟩
end Go.Proofs.YteekompojgbkhaaGreat
