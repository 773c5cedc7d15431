import Derived.Test.YtdpebhdjcgiboaaGreatKSo5
import Derived.Laws.CopyRow
import Derived.Deep.MidRow
import Derived.Laws.IdiomCopy
namespace Go.Proofs.YtdpebhdjcgiboaaGreat
open Go.ChangeShapes Go.WideShapes Go.ChangeAt Go.RowKit Go.MuLone Go.RwLone
set_option linter.unusedVariables false
set_option maxRecDepth 100000
set_option maxHeartbeats 6400000
/-- A state, its registers and places told of the first threads alone. -/
def cutS (s : Ls) (r p : Nat) : Ls := ⟨s.wo, fun i j => if i < r then s.rg i j else 0, fun i => if i < p then s.pl i else 0⟩
theorem cut_all {wd n : Nat} {s : Ls} (h : Can wd n s) : cutS s n n = s := by
  obtain ⟨wo, rg, pl⟩ := s
  unfold cutS
  congr 1
  · funext i j
    dsimp only
    by_cases hi : i < n
    · rw [if_pos hi]
    · rw [if_neg hi]; exact (h.r i j (.inl (by omega))).symm
  · funext i
    dsimp only
    by_cases hi : i < n
    · rw [if_pos hi]
    · rw [if_neg hi]; exact (h.p i (by omega)).symm
def rowU (v : List Int) : List Value := v.map (fun x => .int .u64 x)
abbrev z24 : Array Value := #[.int .u64 0, .int .u64 0, .int .u64 0, .int .u64 0, .int .u64 0, .int .u64 0, .int .u64 0, .int .u64 0, .int .u64 0, .int .u64 0, .int .u64 0, .int .u64 0, .int .u64 0, .int .u64 0, .int .u64 0, .int .u64 0, .int .u64 0, .int .u64 0, .int .u64 0, .int .u64 0, .int .u64 0, .int .u64 0, .int .u64 0, .int .u64 0]
theorem encS_len (s : Ls) : (encS s).length = 24 := by simp [encS]
theorem row_cells {wd n : Nat} {s : Ls} (h : Can wd n s) (h1 : 1 ≤ wd) (h4 : wd ≤ 4) : z24.toList.take 0 ++ rowU ((List.range wd).map s.wo) ++ z24.toList.drop (0 + (rowU ((List.range wd).map s.wo)).length) = rowU (encS (cutS s 0 0)) := by
  have e : wd = 1 ∨ wd = 2 ∨ wd = 3 ∨ wd = 4 := by omega
  have w1 := h.w 1
  have w2 := h.w 2
  have w3 := h.w 3
  rcases e with rfl | rfl | rfl | rfl
  · simp [rowU, encS, cutS, List.range_succ, w1 (by omega), w2 (by omega), w3 (by omega)]
  · simp [rowU, encS, cutS, List.range_succ, w2 (by omega), w3 (by omega)]
  · simp [rowU, encS, cutS, List.range_succ, w3 (by omega)]
  · simp [rowU, encS, cutS, List.range_succ]
theorem row_regs (s : Ls) (t : Nat) (h : t < 4) : (rowU (encS (cutS s t t))).take (4 + 4 * t) ++ rowU [s.rg t 0, s.rg t 1, s.rg t 2, s.rg t 3] ++ (rowU (encS (cutS s t t))).drop (4 + 4 * t + 4) = rowU (encS (cutS s (t + 1) t)) := by
  have e : t = 0 ∨ t = 1 ∨ t = 2 ∨ t = 3 := by omega
  rcases e with rfl | rfl | rfl | rfl <;> simp [rowU, encS, cutS, List.range_succ]
theorem row_place (s : Ls) (t : Nat) (h : t < 4) : (rowU (encS (cutS s (t + 1) t))).set (20 + t) (.int .u64 ((s.pl t : Nat) : Int)) = rowU (encS (cutS s (t + 1) (t + 1))) := by
  have e : t = 0 ∨ t = 1 ∨ t = 2 ∨ t = 3 := by omega
  rcases e with rfl | rfl | rfl | rfl <;> simp [rowU, encS, cutS, List.range_succ]
end Go.Proofs.YtdpebhdjcgiboaaGreat

namespace Go.Proofs.YtdpebhdjcgiboaaGreat
set_option linter.unusedSimpArgs false
open Go.ChangeShapes Go.WideShapes Go.ChangeAt Go.RowKit Go.MuLone Go.RwLone
set_option linter.unusedVariables false
set_option maxRecDepth 100000
set_option maxHeartbeats 6400000
theorem Keeps.setRow {B : Nat → Prop} {w w' : World} {g : Nat} (k : Keeps B w w') (hg : B g) (cs : Array Value) : Keeps B w (w'.setRow g cs) :=
  ⟨k.os, k.tape, k.output, by rw [setRow_size]; exact k.size, fun x hx hn => (setRow_other w' g x cs (fun e => hn (e ▸ hg))).trans (k.block x hx hn)⟩
theorem keeps_cells {B : Nat → Prop} {w : World} {g : Nat} (hg : B g) : ∀ (cs : List Value) (o : Nat) {w' : World}, Keeps B w w' → Keeps B w (w'.setCells g o cs)
  | [], _, _, k => k
  | v :: cs, o, w', k => keeps_cells hg cs (o + 1) (Keeps.setCell (B := B) k (p := ⟨g, o, none⟩) hg v)
theorem z24_there {wr : World} {g : Nat} (hz0 : wr.heap[g]? = some (.cells z24 179)) : wr.there g 0 24 := fun j hj => by
  rw [Nat.zero_add]
  refine ⟨?_, frozen?_heap hz0 j⟩
  rw [cell?_heap hz0 j, Array.getElem?_eq_getElem (show j < z24.size from hj)]
  rfl
theorem results_cellM {fn : Func} {p : Tmp} {ty : TypeId} (h : fn.results = #[.cell p ty]) (tmps : Array Value) (w : World) (g : Nat) (cs : List Value) (d : TypeDesc)
    (hp : tmps.getD p undef = .pointer (some ⟨g, 0, none⟩)) (hg : w.rangeAt g 0 cs)
    (hu : Tryz.prog.underlying ty = some d) (hd : d.isRow = true) (hi : (Tryz.prog.info? ty).map (·.size) = some cs.length) :
    (results fn tmps).run Tryz.prog w = .ok (.agg cs.toArray) w := by
  have hp' : tmps[p]?.getD undef = .pointer (some ⟨g, 0, none⟩) := by simpa using hp
  simp [results, h, hp', asAddr, run_loadVar_mid w g 0 ty cs d hg hu hd hi]
theorem uSt : Tryz.prog.underlying 179 = some (.array 24 55) := by kernel_rfl
theorem iSt : (Tryz.prog.info? 179).map (·.size) = some 24 := by kernel_rfl
theorem row_size (s : Ls) : (rowU (encS s)).toArray.size = 24 := by simp [rowU, encS_len]
theorem rowU_len (s : Ls) : (rowU (encS s)).length = 24 := by simp [rowU, encS_len]
abbrev zS (w : World) : World := (w.alloc (.cells z24 179)).alloc (.cells z24 179)
theorem infoU1 : (Tryz.prog.info? 55).map (·.size) = some 1 := by kernel_rfl
theorem rowU_one (v : List Int) : ∀ u ∈ rowU v, u.oneCell' = true := by
  intro u hu
  obtain ⟨x, _, e⟩ := List.mem_map.1 hu
  rw [← e]; rfl
theorem sizeU (X : World) : (sizeOf 55).run Tryz.prog X = .ok 1 X := by
  have h := infoU1
  cases hq : Tryz.prog.info? 55 with
  | none => rw [hq] at h; cases h
  | some i =>
    have hi : i.size = 1 := by rw [hq] at h; simpa using h
    simp [sizeOf, typeInfo, hq, hi]
theorem slice_st (X : World) (g t : Nat) (ht : t < 4) : (Instr.sliceAt 179 (.pointer (some ⟨g, 0, none⟩)) (some (.int .i64 (4 + 4 * (t : Int)))) (some (.int .i64 20)) none).run Tryz.prog X = .ok (.slice (some ⟨g, 4 + 4 * t, none⟩) (16 - 4 * t) (20 - 4 * t)) X := by
  have hel : Tryz.prog.elem 179 = 55 := by kernel_rfl
  have hal : Tryz.prog.arrayLen 179 = 24 := by kernel_rfl
  rw [run_sliceAt_array_lh X 179 ⟨g, 0, none⟩ (by kernel_rfl) .i64 .i64 (4 + 4 * (t : Int)) 20 (by omega) (by omega) (by rw [hal]; decide), hel, hal, sizeU, Result.andThen_ok]
  have q2 : (4 + 4 * (t : Int)).toNat = 4 + 4 * t := by omega
  unfold slicedAt
  rw [q2, if_neg (by omega)]
  have e : (⟨g, 0, none⟩ : Addr).add ((4 + 4 * t) * 1) = ⟨g, 4 + 4 * t, none⟩ := by unfold Addr.add; split <;> simp_all
  rw [e, show (20 : Int).toNat - (4 + 4 * t) = 16 - 4 * t by show 20 - _ = _; omega, show 24 - (4 + 4 * t) = 20 - 4 * t by omega]
theorem Bo.peeked {B : Bd} (hB : BdOk B) {w w' : World} {s : Ls} {S : AS} (o : Bo B w s) (h : Holds w' B.L S) (e1 : S.word = s.wo) (e2 : S.rc = 0) (e3 : S.n = 1) (e4 : S.use 0 = true) (e5 : S.wd = B.wd) (e6 : S.g0 = 0) (k : Keeps B.L.has w w') : Bo B w' s :=
  ⟨⟨S, h, e1, e2, e3, e4, e5, e6⟩, o.wb, fun i hi => (o.th i hi).keeps k (hB.lT i hi), fun i hi => (o.ro i hi).keeps k (fun ib e => (hB.li i ib hi e).1), fun i ib hi e => Nat.lt_of_lt_of_le (o.il i ib hi e) k.size⟩
theorem state_any (w : World) (G : Nat → Prop) (B : Bd) (hB : BdOk B) (bb hb qb : Nat) (tv : Value) (a : Hp × Ls) (b : BnF w G B bb hb qb tv a) (hn4 : 1 ≤ B.n ∧ B.n ≤ 4) (hw4 : 1 ≤ B.wd ∧ B.wd ≤ 4) (hc : Can B.wd B.n a.2) (hpl : ∀ i, i < B.n → a.2.pl i ≤ 1000) :
    Calls Tryz.prog 86 #[.pointer (some ⟨bb, 0, none⟩)] w fun e w' => e = .returned (.agg (rowU (encS a.2)).toArray) ∧ BnF w' G B bb hb qb tv a ∧ Keeps B.L.has w w' := by
  obtain ⟨S, hS, s1, s2, s3, s4, s5, s6⟩ := b.o.ar
  obtain ⟨gt, ct, htv, -, -⟩ := owG_some b.ot (by intro e; have := congrArg List.length e; simp at this; omega)
  rw [List.length_map, List.length_range] at htv
  subst htv
  have HF : Hid (BnF w G B bb hb qb (.slice (some ⟨gt, 0, none⟩) B.n ct) a ∧ S.word = a.2.wo ∧ Can B.wd B.n a.2) := ⟨b, s1, hc⟩
  have HZ : Hid (Holds (zS w) B.L S) := (hS.alloc _).alloc _
  have HS2 : Hid (S.g0 = 0 ∧ S.rc = 0 ∧ 0 < S.n ∧ S.use 0 = true ∧ S.wd = B.wd) := ⟨s6, s2, by omega, s4, s5⟩
  have kz : Keeps (fun _ => False) w (zS w) := ((Keeps.refl _ _).alloc _).alloc _
  have lb := (Array.getElem?_eq_some_iff.1 b.be).1
  have HC : (zS w).heap[bb]? = some (.cells (beA B.L (.slice (some ⟨gt, 0, none⟩) B.n ct) hb) 146) := (kz.block bb lb (fun e => e)).trans b.be
  have HKZ : Hid (Keeps (fun _ => False) w (zS w) ∧ bb < w.heap.size) := ⟨kz, lb⟩
  have HR2 : Hid ((zS w).heap[w.heap.size]? = some (.cells z24 179) ∧ (zS w).heap[w.heap.size + 1]? = some (.cells z24 179)) := ⟨(Below.heap_alloc _ _ _ (by rw [szAl]; omega)).trans (heap_alloc_last _ _ _ rfl), heap_alloc_last _ _ _ (szAl _ _).symm⟩
  have HSN : Hid (S.n = 1 ∧ S.wd = B.wd) := ⟨s3, s5⟩
  clear b hS s1 s2 s3 s4 s5 s6 kz lb hc
  go_enter Tryz.func86, Tryz.ntmps86
  go_wp2_with fail
  (refine wp_region_held_drew (S := (fun W => W.cell? ⟨bb, 0, none⟩ = some (.pointer (some ⟨B.L.b, 0, none⟩)) ∧ W.cell? ⟨bb, 1, none⟩ = some (.int .i64 1))) (by kernel_rfl) ⟨(cell?_heap HC 0).trans rfl, (cell?_heap HC 1).trans rfl⟩ (fun hHeld => ?_); simp only [List.size_toArray, List.length_cons, List.length_nil, Nat.reduceAdd, Array.replicate_succ, Array.replicate_zero, List.push_toArray, List.append_toArray, List.nil_append, List.cons_append])
  clear HC
  refine rgT 0 (h := ?_)
  refine rgT 1 (h := ?_)
  refine rgT 2 (h := ?_)
  refine rgT 3 (h := ?_)
  refine rgT 4 (h := ?_)
  refine rgT 5 (h := ?_)
  refine rgT 6 (h := ?_)
  refine rgT 7 (h := ?_)
  refine rgT 8 (h := ?_)
  refine rgT 9 (h := ?_)
  (refine rgS 10 (h := fun K hK => ?_); go_simp)
  refine (peek_ok B.L S (zS w).drew 0 HZ.out.drew HS2.out.1 HS2.out.2.1 HS2.out.2.2.1 HS2.out.2.2.2.1).mono ?_
  rintro e w1 ⟨g, rfl, hp⟩
  rw [HS2.out.2.2.2.2]
  have zsz : (zS w).heap.size = w.heap.size + 2 := by rw [szAl, szAl]
  have k1 : Keeps B.L.has w w1 := ((HKZ.out.1.mono (fun _ e => e.elim)).drew).trans hp.kp
  have hLl : ∀ y, B.L.has y → y < w.heap.size := fun y hy => HF.out.1.o.lt (.inl hy)
  have nr0 : ¬ B.L.has w.heap.size := fun e => by have := hLl _ e; omega
  have nr1 : ¬ B.L.has (w.heap.size + 1) := fun e => by have := hLl _ e; omega
  have rb0 : w1.heap[w.heap.size]? = some (.cells z24 179) := (hp.kp.block _ (by show w.heap.size < (zS w).heap.size; omega) nr0).trans HR2.out.1
  have rb1 : w1.heap[w.heap.size + 1]? = some (.cells z24 179) := (hp.kp.block _ (by show w.heap.size + 1 < (zS w).heap.size; omega) nr1).trans HR2.out.2
  have bw1 : BnF w1 G B bb hb qb (.slice (some ⟨gt, 0, none⟩) B.n ct) a := by
    have o1 : Bo B w1 a.2 := HF.out.1.o.peeked hB hp.h HF.out.2.1 rfl (by have := HSN.out; exact this.1) HS2.out.2.2.2.1 HS2.out.2.2.2.2 rfl k1
    exact HF.out.1.moved (D := fun _ => False) o1 (k1.mono (fun y e => .inr (.inl e))) (fun _ e => e.elim)
  have hbe := bw1.be
  have hgl : w.heap.size + 2 ≤ g := by have := hp.g0; rw [show (zS w).drew.heap.size = w.heap.size + 2 from zsz] at this; exact this
  have hwd : ∀ i, i < B.wd → w1.cell? ⟨g, i, none⟩ = some (.int .u64 (a.2.wo i)) := fun i hi => by
    have := hp.lo i (by rw [HS2.out.2.2.2.2]; exact hi)
    rw [Nat.zero_mul, Nat.zero_add] at this
    rw [this]
    show some (Value.int .u64 (S.word i)) = _
    rw [HF.out.2.1]
  have hcp := run_copy_row (P := Tryz.prog) w1 46 46 3 55 (w.heap.size + 1) 0 4 24 ⟨g, 0, none⟩ B.wd B.wd z24 179 (rowU ((List.range B.wd).map a.2.wo)) Tryz.underlying46 infoU1 rb1 (by rw [show (rowU ((List.range B.wd).map a.2.wo)).length = B.wd by simp [rowU]]; exact (Nat.min_eq_left hw4.2).symm) (fun j v hj => by
    have hj2 : j < B.wd := by
      have := (List.getElem?_eq_some_iff.1 hj).1
      simpa [rowU] using this
    have e : (⟨g, 0, none⟩ : Addr).add j = ⟨g, j, none⟩ := by unfold Addr.add; split <;> simp_all
    rw [e, hwd j hj2]
    rw [← hj]
    simp [rowU, hj2]) (by simp [rowU]; omega) (rowU_one _)
  rw [row_cells HF.out.2.2 hw4.1 hw4.2] at hcp
  have hln : (rowU ((List.range B.wd).map a.2.wo)).length = B.wd := by simp [rowU]
  rw [hln] at hcp
  (refine hK.out _ _ ⟨(cell?_heap hbe 0).trans rfl, (cell?_heap hbe 1).trans rfl⟩ (fun hHeld => ?_); clear hK K; try simp only [Act.put, List.setIfInBounds_toArray, List.set_cons_zero, List.set_cons_succ])
  refine rgT 11 (h := ?_)
  refine rgT 12 (h := ?_)
  refine rgT 13 (h := ?_)
  refine rgT 14 (h := ?_)
  refine rgT 15 (h := ?_)
  refine wpAnyH_done (by kernel_rfl) ?_ _
  have c2 := (cell?_heap hbe 2).trans rfl
  have HW1 : Hid (BnF w1 G B bb hb qb (.slice (some ⟨gt, 0, none⟩) B.n ct) a ∧ w1.heap[w.heap.size]? = some (.cells z24 179) ∧ w1.heap[w.heap.size + 1]? = some (.cells z24 179) ∧ Keeps B.L.has w w1 ∧ bb < w.heap.size) := ⟨bw1, rb0, rb1, k1, HKZ.out.2⟩
  have c3 : (w1.setRow (w.heap.size + 1) (rowU (encS (cutS a.2 0 0))).toArray).cell? ⟨bb, 2, none⟩ = some (.slice (some ⟨gt, 0, none⟩) B.n ct) := (cell_setRow_other _ _ _ _ (by have := HKZ.out.2; show ¬ bb = w.heap.size + 1; omega)).trans c2
  clear zsz hLl nr0 nr1 hln rb0 rb1 bw1 k1 hbe hwd hgl hp HZ HR2 HKZ
  go_wp2_with fail
  have HR0 : Hid ((w1.setRow (w.heap.size + 1) (rowU (encS (cutS a.2 0 0))).toArray).heap[w.heap.size + 1]? = some (.cells (rowU (encS (cutS a.2 0 0))).toArray 179)) := setRow_heap w1 _ z24 _ _ _ HW1.out.2.2.1
  clear c2 c3 hcp
  go_loopw [30] (fun c wr => ∃ t : Nat, c = .int .i64 t ∧ t ≤ B.n ∧ wr.heap[w.heap.size + 1]? = some (.cells (rowU (encS (cutS a.2 t t))).toArray 179) ∧ Keeps (fun x => x = w.heap.size + 1) w1 wr) (fun c _ => B.n - (intOf c).toNat)
  case atStart => exact ⟨0, rfl, by omega, HR0.out, Keeps.setRow (B := fun x => x = w.heap.size + 1) (Keeps.refl _ _) rfl _⟩
  case round =>
    rename World => wr
    obtain ⟨t, rfl, ht, hrow, hk⟩ := hrel
    have HQ : Hid (wr.heap[w.heap.size + 1]? = some (.cells (rowU (encS (cutS a.2 t t))).toArray 179) ∧ Keeps (fun x => x = w.heap.size + 1) w1 wr) := ⟨hrow, hk⟩
    have t0 : (0 : Int) ≤ (t : Int) := Int.natCast_nonneg _
    by_cases h5 : t < B.n
    · have t1 : (t : Int) < (B.n : Int) := by omega
      have ht4 : t < 4 := by omega
      have ot := HW1.out.1.ot
      have hgt : gt < w.heap.size := by
        have := own_lt HF.out.1.ot (g := gt) rfl
        exact this
      have cT : wr.cell? ⟨gt, t, none⟩ = some (.pointer (some ⟨B.T t, 0, none⟩)) := by
        rw [hk.cell (p := ⟨gt, t, none⟩) (own_lt ot rfl) (by show ¬ gt = _; omega)]
        have : OwG thC 31 1 w1 0 (.slice (some ⟨gt, 0, none⟩) ((List.range B.n).map B.T).length ct) ((List.range B.n).map B.T) := by rw [List.length_map, List.length_range]; exact ot
        rw [World.ownsRow.cellAt this t (by simpa using h5)]
        have := flat_get thC 1 (fun _ => rfl) ((List.range B.n).map B.T) t (by simpa using h5) 0 (by decide)
        rw [Nat.mul_one, Nat.add_zero] at this
        rw [this]
        simp [thC]
      have hTl : B.T t < w.heap.size := HF.out.1.o.lt (.inr ⟨t, h5, .inl rfl⟩)
      have hT := (HW1.out.1.o.th t h5).keeps hk (by show ¬ B.T t = w.heap.size + 1; omega)
      have HT : Hid (Tg wr (B.T t) B.L (B.ia t) (B.ins t).length (B.cap t) (a.2.rg t) (a.2.pl t)) := hT
      have hcp := run_copy_row (P := Tryz.prog) wr.drew 46 46 3 55 (w.heap.size + 1) (4 + 4 * t) (16 - 4 * t) (20 - 4 * t) ⟨B.T t, 3, none⟩ 4 4 (rowU (encS (cutS a.2 t t))).toArray 179 (rowU [a.2.rg t 0, a.2.rg t 1, a.2.rg t 2, a.2.rg t 3]) Tryz.underlying46 infoU1 hrow (by show 4 = min 4 (16 - 4 * t); omega) (fun j v hj => by
        have hj2 : j < 4 := (List.getElem?_eq_some_iff.1 hj).1
        have e : (⟨B.T t, 3, none⟩ : Addr).add j = ⟨B.T t, 3 + j, none⟩ := by unfold Addr.add; split <;> simp_all
        rw [e]
        show wr.cell? ⟨B.T t, 3 + j, none⟩ = some v
        rw [hT.r j hj2, ← hj]
        match j, hj2 with
        | 0, _ => rfl
        | 1, _ => rfl
        | 2, _ => rfl
        | 3, _ => rfl) (by simp [rowU, encS_len]; omega) (rowU_one _)
      rw [List.toList_toArray, show (rowU [a.2.rg t 0, a.2.rg t 1, a.2.rg t 2, a.2.rg t 3]).length = 4 from rfl, row_regs a.2 t ht4] at hcp
      have m1 : IntKind.i64.wrap ((t : Int) * 4) = ((4 * t : Nat) : Int) := by rw [IntKind.wrap_i64]; omega
      have m2 : IntKind.i64.wrap (4 + 4 * (t : Int)) = 4 + 4 * (t : Int) := by rw [IntKind.wrap_i64]; omega
      have hsl : ∀ X : World, (Instr.sliceAt 179 (.pointer (some ⟨w.heap.size + 1, 0, none⟩)) (some (.int .i64 (4 + 4 * (t : Int)))) (some (.int .i64 20)) none).run Tryz.prog X = .ok (.slice (some ⟨w.heap.size + 1, 4 + 4 * t, none⟩) (16 - 4 * t) (20 - 4 * t)) X := fun X => slice_st X (w.heap.size + 1) t ht4
      clear hrow hk ot hT hgt hTl
      go_wp2_with fail
      (refine wp_region_held_drew (S := (fun _ => True)) (by kernel_rfl) trivial (fun hHeld => ?_); simp only [List.size_toArray, List.length_cons, List.length_nil, Nat.reduceAdd, Array.replicate_succ, Array.replicate_zero, List.push_toArray, List.append_toArray, List.nil_append, List.cons_append])
      refine rgT 0 (h := ?_)
      refine rgT 1 (h := ?_)
      refine rgT 2 (h := ?_)
      refine rgT 3 (h := ?_)
      refine rgT 4 (h := ?_)
      refine rgT 5 (h := ?_)
      refine rgT 6 (h := ?_)
      refine rgT 7 (h := ?_)
      (refine rgS 8 (h := fun K hK => ?_); go_simp)
      (refine hK.out _ _ trivial (fun hHeld => ?_); clear hK K; try simp only [Act.put, List.setIfInBounds_toArray, List.set_cons_zero, List.set_cons_succ])
      refine wpAnyH_done (by kernel_rfl) ?_ _
      have hr2 : (wr.drew.setRow (w.heap.size + 1) (rowU (encS (cutS a.2 (t + 1) t))).toArray).heap[w.heap.size + 1]? = some (.cells (rowU (encS (cutS a.2 (t + 1) t))).toArray 179) := setRow_heap wr.drew _ _ _ _ _ HQ.out.1
      have k2 : Keeps (fun x => x = w.heap.size + 1) wr (wr.drew.setRow (w.heap.size + 1) (rowU (encS (cutS a.2 (t + 1) t))).toArray) := Keeps.setRow (B := fun x => x = w.heap.size + 1) (Keeps.refl _ _).drew rfl _
      have hTl : B.T t < w.heap.size := HF.out.1.o.lt (.inr ⟨t, h5, .inl rfl⟩)
      have cP := (HT.out.keeps k2 (by show ¬ B.T t = w.heap.size + 1; omega)).p
      generalize wr.drew.setRow (w.heap.size + 1) (rowU (encS (cutS a.2 (t + 1) t))).toArray = w2 at *
      have hpt := hpl t h5
      obtain ⟨pv, hpv⟩ : ∃ pv, a.2.pl t = pv := ⟨_, rfl⟩
      have HPV : Hid (a.2.pl t = pv) := hpv
      rw [hpv] at cP hpt
      have hpw : IntKind.u64.wrap (pv : Int) = (pv : Int) := by rw [IntKind.wrap_u64]; omega
      obtain ⟨u0, c20⟩ : ∃ u, w2.cell? ⟨w.heap.size + 1, 20 + t, none⟩ = some u := ⟨_, (cell?_heap hr2 (20 + t)).trans (by rw [List.getElem?_toArray]; exact List.getElem?_eq_getElem (by simp [rowU, encS_len]; omega))⟩
      have f20 : w2.frozen? ⟨w.heap.size + 1, 20 + t, none⟩ = false := frozen?_heap hr2 (20 + t)
      have HN : Hid ((w2.setCell ⟨w.heap.size + 1, 20 + t, none⟩ (.int .u64 (pv : Int))).heap[w.heap.size + 1]? = some (.cells (rowU (encS (cutS a.2 (t + 1) (t + 1)))).toArray 179) ∧ Keeps (fun x => x = w.heap.size + 1) w1 (w2.setCell ⟨w.heap.size + 1, 20 + t, none⟩ (.int .u64 (pv : Int)))) := by
        refine ⟨?_, HQ.out.2.trans (Keeps.setCell (B := fun x => x = w.heap.size + 1) k2 rfl _)⟩
        have := heapSet hr2 (j := 20 + t) (.int .u64 (pv : Int))
        rw [List.setIfInBounds_toArray, ← HPV.out, row_place a.2 t ht4] at this
        rw [← HPV.out]
        exact this
      clear hr2 k2 hTl hpv hcp hsl m1 m2 cT HT HQ
      go_wp2
      go_roundw
      case rel => exact ⟨t + 1, by go_num, by omega, HN.out.1, HN.out.2⟩
      case measure => simp [intOf]; omega
    · obtain rfl : t = B.n := by omega
      rw [cut_all HF.out.2.2] at hrow
      have HR : Hid (wr.heap[w.heap.size + 1]? = some (.cells (rowU (encS a.2)).toArray 179) ∧ Keeps (fun x => x = w.heap.size + 1) w1 wr) := ⟨hrow, hk⟩
      have hrng : wr.rangeAt (w.heap.size + 1) 0 (rowU (encS a.2)) := fun j v hj => by
        rw [Nat.zero_add, cell?_heap hrow j, List.getElem?_toArray]
        exact hj
      have hz0 : wr.heap[w.heap.size]? = some (.cells z24 179) := (hk.block _ (Array.getElem?_eq_some_iff.1 HW1.out.2.1).1 (by show ¬ w.heap.size = w.heap.size + 1; omega)).trans HW1.out.2.1
      have hthere : wr.there w.heap.size 0 (rowU (encS a.2)).toArray.size := fun j hj => z24_there hz0 j (Nat.lt_of_lt_of_eq hj (row_size a.2))
      have HRG : Hid (wr.rangeAt (w.heap.size + 1) 0 (rowU (encS a.2))) := hrng
      have HTH : Hid (wr.there w.heap.size 0 (rowU (encS a.2)).toArray.size) := hthere
      have HEND : Hid (BnF (wr.setCells w.heap.size 0 (rowU (encS a.2)).toArray.toList) G B bb hb qb (.slice (some ⟨gt, 0, none⟩) B.n ct) a ∧ Keeps B.L.has w (wr.setCells w.heap.size 0 (rowU (encS a.2)).toArray.toList)) := by
        have kk := keeps_cells (B := fun x => x = w.heap.size ∨ x = w.heap.size + 1) (g := w.heap.size) (.inl rfl) (rowU (encS a.2)).toArray.toList 0 (hk.mono (fun x e => .inr e))
        refine ⟨HW1.out.1.keeps kk (fun y e e' => by have := HF.out.1.gl y e'; omega), ?_⟩
        have k1 := HW1.out.2.2.2.1
        exact ⟨kk.os.trans k1.os, kk.tape.trans k1.tape, kk.output.trans k1.output, Nat.le_trans k1.size kk.size, fun x hx hn => (kk.block x (Nat.lt_of_lt_of_le hx k1.size) (by omega)).trans (k1.block x hx hn)⟩
      clear HQ hrow hk hrng hz0 hthere HR
      obtain ⟨row, hrw⟩ : ∃ row, rowU (encS a.2) = row := ⟨_, rfl⟩
      have HRW : Hid (rowU (encS a.2) = row ∧ row.length = 24 ∧ row.toArray.size = 24 ∧ ∀ u ∈ row, u.oneCell' = true) := ⟨hrw, by rw [← hrw]; exact rowU_len a.2, by rw [← hrw]; exact row_size a.2, by rw [← hrw]; exact rowU_one _⟩
      rw [hrw] at HRG HTH HEND
      clear hrw
      have hi1 : (Tryz.prog.info? 179).map (·.size) = some row.length := by rw [HRW.out.2.1]; exact iSt
      have hi2 : (Tryz.prog.info? 179).map (·.size) = some row.toArray.size := by rw [HRW.out.2.2.1]; exact iSt
      have hon := all_oneCell_toArray HRW.out.2.2.2
      have HI : Hid ((Tryz.prog.info? 179).map (·.size) = some row.length ∧ (Tryz.prog.info? 179).map (·.size) = some row.toArray.size ∧ row.toArray.all (·.oneCell') = true) := ⟨hi1, hi2, hon⟩
      clear hi1 hi2 hon
      go_wp2_with (first | (refine wpList_load_mid (by rfl) 179 (.tmp 3) (by rfl) (w.heap.size + 1) 0 (by rfl) row _ HRG.out uSt rfl HI.out.1 ?_) | (refine wpList_store_mid (by rfl) 179 (.tmp 2) _ (by rfl) w.heap.size 0 row.toArray (by rfl) (by rfl) HTH.out HI.out.2.1 HI.out.2.2 ?_))
      have HT2 : wr.there w.heap.size 0 row.toArray.toList.length := HTH.out
      rw [HRW.out.1]
      refine bodyPost_ret (results_cellM (p := 2) (ty := 179) rfl _ _ w.heap.size row _ (by rfl) (World.rangeAt_setCells_same wr w.heap.size 0 _ HT2) uSt rfl HI.out.1) rfl ⟨rfl, HEND.out⟩
end Go.Proofs.YtdpebhdjcgiboaaGreat

namespace Go.Proofs.YtdpebhdjcgiboaaGreat
open Go.ChangeShapes Go.WideShapes Go.ChangeAt Go.RowKit Go.MuLone Go.RwLone
set_option linter.unusedVariables false
set_option maxRecDepth 100000
set_option maxHeartbeats 6400000
/-- A word of a bench stored. -/
theorem bstore (w : World) (B : Bd) (hB : BdOk B) (s : Ls) (o : Bo B w s) (j : Nat) (hj : j < B.wd) (y : Int) (hy : 0 ≤ y ∧ y < 18446744073709551616) :
    Calls Tryz.prog 123 #[.pointer (some ⟨B.L.b, 0, none⟩), .int .i64 1, .int .i64 (j : Int), .int .u64 y] w fun e w' => e = .returned (.int .i64 0) ∧ Bo B w' { s with wo := upd s.wo j y } ∧ Keeps B.L.has w w' := by
  obtain ⟨S, hS, s1, s2, s3, s4, s5, s6⟩ := o.ar
  refine (store_ok B.L S w 0 j y hS s2 (by omega) s4 (by rw [s5]; exact hj)).mono ?_
  rintro e w' ⟨he, h, k⟩
  refine ⟨he, ⟨⟨_, h, ?_, rfl, s3, s4, s5, s6⟩, fun i hi => ?_, fun i hi => (o.th i hi).keeps k (hB.lT i hi), fun i hi => (o.ro i hi).keeps k (fun ib e => (hB.li i ib hi e).1), fun i ib hi e => Nat.lt_of_lt_of_le (o.il i ib hi e) k.size⟩, k⟩
  · show upd S.word (0 * S.wd + j) y = upd s.wo j y
    rw [Nat.zero_mul, Nat.zero_add, s1]
  · show 0 ≤ upd s.wo j y i ∧ upd s.wo j y i < 18446744073709551616
    by_cases e : i = j
    · subst e; rw [upd_same]; exact hy
    · rw [upd_other _ _ e]; exact o.wb i hi
/-- A thread's registers and place laid anew. -/
theorem Tg.laid {w : World} {T : Nat} {L : Lay} {ia : Option Addr} {m cap : Nat} {rg : Nat → Int} {pl : Nat} (h : Tg w T L ia m cap rg pl) (r : Nat → Int) (p : Nat) (hr : ∀ j, 4 ≤ j → r j = rg j) :
    Tg ((w.setCells T 3 (rowU [r 0, r 1, r 2, r 3])).setCell ⟨T, 7, none⟩ (.int .i64 (p : Int))) T L ia m cap r p := by
  have h4 := ((((h.setReg 0 (by decide) (r 0)).setReg 1 (by decide) (r 1)).setReg 2 (by decide) (r 2)).setReg 3 (by decide) (r 3)).setPl p
  have e : upd (upd (upd (upd rg 0 (r 0)) 1 (r 1)) 2 (r 2)) 3 (r 3) = r := by
    funext j
    by_cases h3 : j = 3
    · subst h3; rw [upd_same]
    · rw [upd_other _ _ h3]
      by_cases h2 : j = 2
      · subst h2; rw [upd_same]
      · rw [upd_other _ _ h2]
        by_cases h1 : j = 1
        · subst h1; rw [upd_same]
        · rw [upd_other _ _ h1]
          by_cases h0 : j = 0
          · subst h0; rw [upd_same]
          · rw [upd_other _ _ h0]; exact (hr j (by omega)).symm
  rw [e] at h4
  exact h4
/-- A bench one of whose threads was laid anew. -/
theorem Bo.laid {B : Bd} (hB : BdOk B) {w : World} {s : Ls} (o : Bo B w s) (t : Nat) (ht : t < B.n) (r : Nat → Int) (p : Nat) (hr : ∀ j, 4 ≤ j → r j = s.rg t j) :
    Bo B ((w.setCells (B.T t) 3 (rowU [r 0, r 1, r 2, r 3])).setCell ⟨B.T t, 7, none⟩ (.int .i64 (p : Int))) ⟨s.wo, upd s.rg t r, upd s.pl t p⟩ ∧ Keeps (fB B) w ((w.setCells (B.T t) 3 (rowU [r 0, r 1, r 2, r 3])).setCell ⟨B.T t, 7, none⟩ (.int .i64 (p : Int))) := by
  have k : Keeps (fun x => x = B.T t) w ((w.setCells (B.T t) 3 (rowU [r 0, r 1, r 2, r 3])).setCell ⟨B.T t, 7, none⟩ (.int .i64 (p : Int))) := Keeps.setCell (B := fun x => x = B.T t) (keeps_cells (B := fun x => x = B.T t) rfl _ _ (Keeps.refl _ _)) rfl _
  obtain ⟨S, hS, s1, s2⟩ := o.ar
  refine ⟨⟨⟨S, hS.keeps k (fun g hg e => hB.lT t ht (e ▸ hg)), s1, s2⟩, o.wb, fun i hi => ?_, fun i hi => (o.ro i hi).keeps k (fun ib e e' => (hB.li i ib hi e).2 t ht e'), fun i ib hi e => Nat.lt_of_lt_of_le (o.il i ib hi e) k.size⟩, k.mono (fun x e => .inr ⟨t, ht, .inl e⟩)⟩
  dsimp only
  by_cases e : i = t
  · subst e
    rw [upd_same, upd_same]
    exact (o.th i hi).laid r p hr
  · rw [upd_other _ _ e, upd_other _ _ e]
    exact (o.th i hi).keeps k (fun e' => hB.TT i t hi ht e e')
end Go.Proofs.YtdpebhdjcgiboaaGreat

namespace Go.Proofs.YtdpebhdjcgiboaaGreat
set_option linter.unusedSimpArgs false
open Go.ChangeShapes Go.WideShapes Go.ChangeAt Go.RowKit Go.MuLone Go.RwLone
set_option linter.unusedVariables false
set_option maxRecDepth 100000
set_option maxHeartbeats 6400000
/-- In the midst of restoring: j words and t threads are those of s. -/
def mixS (a s : Ls) (j t : Nat) : Ls := ⟨fun i => if i < j then s.wo i else a.wo i, fun i => if i < t then s.rg i else a.rg i, fun i => if i < t then s.pl i else a.pl i⟩
theorem mix_none (a s : Ls) : mixS a s 0 0 = a := by
  obtain ⟨wo, rg, pl⟩ := a
  unfold mixS
  simp
theorem upd_mix {α : Type} (f g : Nat → α) (j : Nat) : upd (fun i => if i < j then f i else g i) j (f j) = fun i => if i < j + 1 then f i else g i := by
  funext i
  by_cases e : i = j
  · subst e; rw [upd_same, if_pos (by omega)]
  · rw [upd_other _ _ e]
    by_cases h : i < j
    · rw [if_pos h, if_pos (by omega)]
    · rw [if_neg h, if_neg (by omega)]
theorem mix_word (a s : Ls) (j t : Nat) : ({ mixS a s j t with wo := upd (mixS a s j t).wo j (s.wo j) } : Ls) = mixS a s (j + 1) t := by
  unfold mixS
  dsimp only
  rw [upd_mix s.wo a.wo j]
theorem mix_thread (a s : Ls) (j t : Nat) : (⟨(mixS a s j t).wo, upd (mixS a s j t).rg t (s.rg t), upd (mixS a s j t).pl t (s.pl t)⟩ : Ls) = mixS a s j (t + 1) := by
  unfold mixS
  dsimp only
  rw [upd_mix s.rg a.rg t, upd_mix s.pl a.pl t]
theorem mix_all {wd n : Nat} {a s : Ls} (ha : Can wd n a) (hs : Can wd n s) : mixS a s wd n = s := by
  obtain ⟨wo, rg, pl⟩ := s
  unfold mixS
  congr 1
  · funext i
    dsimp only
    by_cases h : i < wd
    · rw [if_pos h]
    · rw [if_neg h, ha.w i (by omega)]; exact (hs.w i (by omega)).symm
  · funext i
    dsimp only
    by_cases h : i < n
    · rw [if_pos h]
    · rw [if_neg h]
      funext r
      rw [ha.r i r (.inl (by omega))]; exact (hs.r i r (.inl (by omega))).symm
  · funext i
    dsimp only
    by_cases h : i < n
    · rw [if_pos h]
    · rw [if_neg h, ha.p i (by omega)]; exact (hs.p i (by omega)).symm
theorem row_at (s : Ls) (k : Nat) (h : k < 24) : (rowU (encS s))[k]? = some (.int .u64 ((encS s).getD k 0)) := by
  unfold rowU
  rw [List.getElem?_map, List.getD_eq_getElem?_getD, List.getElem?_eq_getElem (by rw [encS_len]; exact h)]
  rfl
theorem slice_rest (X : World) (g t : Nat) (ht : t < 4) : (Instr.sliceAt 179 (.pointer (some ⟨g, 0, none⟩)) (some (.int .i64 (4 + 4 * (t : Int)))) none none).run Tryz.prog X = .ok (.slice (some ⟨g, 4 + 4 * t, none⟩) (20 - 4 * t) (20 - 4 * t)) X := by
  have hel : Tryz.prog.elem 179 = 55 := by kernel_rfl
  have hal : Tryz.prog.arrayLen 179 = 24 := by kernel_rfl
  rw [run_sliceAt_array_l X 179 ⟨g, 0, none⟩ (by kernel_rfl) .i64 (4 + 4 * (t : Int)) (by omega) (by rw [hal]; omega), hel, hal, sizeU, Result.andThen_ok]
  have q2 : (4 + 4 * (t : Int)).toNat = 4 + 4 * t := by omega
  unfold slicedAt
  rw [q2, if_neg (by omega)]
  have e : (⟨g, 0, none⟩ : Addr).add ((4 + 4 * t) * 1) = ⟨g, 4 + 4 * t, none⟩ := by unfold Addr.add; split <;> simp_all
  rw [e, show 24 - (4 + 4 * t) = 20 - 4 * t by omega]
theorem restore_any (w : World) (G : Nat → Prop) (B : Bd) (hB : BdOk B) (bb hb qb : Nat) (tv : Value) (a : Hp × Ls) (b : BnF w G B bb hb qb tv a) (hn4 : 1 ≤ B.n ∧ B.n ≤ 4) (hw4 : 1 ≤ B.wd ∧ B.wd ≤ 4) (hc : Can B.wd B.n a.2) (s : Ls) (hs : Can B.wd B.n s) (hwb : ∀ i, i < B.wd → 0 ≤ s.wo i ∧ s.wo i < 18446744073709551616) (hpl : ∀ i, i < B.n → s.pl i ≤ 1000) :
    Calls Tryz.prog 90 #[.pointer (some ⟨bb, 0, none⟩), .agg (rowU (encS s)).toArray] w fun e w' => e = .returned (.tuple #[]) ∧ BnF w' G B bb hb qb tv (a.1, s) ∧ Keeps (fB B) w w' := by
  obtain ⟨gt, ct, htv, -, -⟩ := owG_some b.ot (by intro e; have := congrArg List.length e; simp at this; omega)
  rw [List.length_map, List.length_range] at htv
  subst htv
  obtain ⟨row, hrw⟩ : ∃ row, rowU (encS s) = row := ⟨_, rfl⟩
  have HRW : Hid (∀ k, k < 24 → row[k]? = some (.int .u64 ((encS s).getD k 0))) := fun k hk => by rw [← hrw]; exact row_at s k hk
  rw [hrw]
  have HF : Hid (BnF w G B bb hb qb (.slice (some ⟨gt, 0, none⟩) B.n ct) a ∧ Can B.wd B.n a.2 ∧ Can B.wd B.n s) := ⟨b, hc, hs⟩
  have k0 : Keeps (fun _ => False) w (w.alloc (.cells row.toArray 179)) := (Keeps.refl _ _).alloc _
  have e0 : (w.alloc (.cells row.toArray 179)).heap[w.heap.size]? = some (.cells row.toArray 179) := heap_alloc_last _ _ _ rfl
  have lb := (Array.getElem?_eq_some_iff.1 b.be).1
  have H0 : Hid (Keeps (fun _ => False) w (w.alloc (.cells row.toArray 179)) ∧ (w.alloc (.cells row.toArray 179)).heap[w.heap.size]? = some (.cells row.toArray 179) ∧ bb < w.heap.size) := ⟨k0, e0, lb⟩
  have HC : (w.alloc (.cells row.toArray 179)).heap[bb]? = some (.cells (beA B.L (.slice (some ⟨gt, 0, none⟩) B.n ct) hb) 146) := (k0.block bb lb (fun e => e)).trans b.be
  have HCH : Hid ((w.alloc (.cells row.toArray 179)).heap[bb]? = some (.cells (beA B.L (.slice (some ⟨gt, 0, none⟩) B.n ct) hb) 146)) := HC
  have c0 := (cell?_heap HC 0).trans rfl
  clear b hrw hc hs k0 e0 lb HC
  go_enter Tryz.func90, Tryz.ntmps90
  go_wp2_with fail
  generalize w.alloc (.cells row.toArray 179) = w0 at *
  obtain ⟨S, hS, s1, s2, s3, s4, s5, s6⟩ := (HF.out.1.o.far H0.out.1 (fun _ e => e.elim)).ar
  refine (shape_any B.L.b S.n S.wd S.n (some ⟨B.L.s, 0, none⟩) w0 (by omega) hS.c0 hS.c1).mono ?_
  rintro e w1 ⟨rfl, hw1⟩
  rw [s5, s3]
  clear hS s1 s2 s3 s4 s5 s6
  subst hw1
  have HI0 : Hid (Bo B w0.drew (mixS a.2 s 0 0) ∧ Keeps (fB B) w0 w0.drew) := ⟨by rw [mix_none]; exact (HF.out.1.o.far H0.out.1 (fun _ e => e.elim)).far (Keeps.refl (fun _ => False) _).drew (fun _ e => e.elim), (Keeps.refl _ _).drew⟩
  have HB : Hid (∀ X, Keeps (fB B) w0 X → X.heap[bb]? = some (.cells (beA B.L (.slice (some ⟨gt, 0, none⟩) B.n ct) hb) 146) ∧ X.heap[w.heap.size]? = some (.cells row.toArray 179)) := fun X k =>
    ⟨(k.block bb (Array.getElem?_eq_some_iff.1 HCH.out).1 HF.out.1.nb).trans HCH.out, (k.block _ (Array.getElem?_eq_some_iff.1 H0.out.2.1).1 (fun e => by have := HF.out.1.o.lt e; omega)).trans H0.out.2.1⟩
  have HR : Hid (∀ X k, Keeps (fB B) w0 X → k < 24 → X.cell? ⟨w.heap.size, k, none⟩ = some (.int .u64 ((encS s).getD k 0))) := fun X k kx hk => by
    rw [cell?_heap (HB.out X kx).2 k, List.getElem?_toArray]
    exact HRW.out k hk
  clear c0
  go_wp2_with fail
  go_loopw [19] (fun c wr => ∃ j : Nat, c = .int .i64 j ∧ j ≤ B.wd ∧ Bo B wr (mixS a.2 s j 0) ∧ Keeps (fB B) w0 wr) (fun c _ => B.wd - (intOf c).toNat)
  case atStart => exact ⟨0, rfl, by omega, HI0.out.1, HI0.out.2⟩
  case round =>
    rename World => wr
    obtain ⟨j, rfl, hj, ho, hk⟩ := hrel
    have HQ : Hid (Bo B wr (mixS a.2 s j 0) ∧ Keeps (fB B) w0 wr) := ⟨ho, hk⟩
    have hbb := (HB.out wr hk).1
    have j0 : (0 : Int) ≤ (j : Int) := Int.natCast_nonneg _
    by_cases h5 : j < B.wd
    · have j1 : (j : Int) < (B.wd : Int) := by omega
      have b0 := (cell?_heap hbb 0).trans rfl
      have b1 := (cell?_heap hbb 1).trans rfl
      have r0 : wr.cell? ⟨w.heap.size, j, none⟩ = some (.int .u64 (s.wo j)) := by
        rw [HR.out wr j hk (by omega), encS_at s j (by omega), if_pos (by omega)]
      have hwj := hwb j h5
      have HY : Hid (0 ≤ s.wo j ∧ s.wo j < 18446744073709551616) := hwj
      obtain ⟨y, hy⟩ : ∃ y, s.wo j = y := ⟨_, rfl⟩
      have HYY : Hid (s.wo j = y) := hy
      rw [hy] at r0 HY
      have jw : IntKind.i64.wrap (0 + (j : Int)) = (j : Int) := by rw [IntKind.wrap_i64]; omega
      have jw2 : IntKind.i64.wrap (j : Int) = (j : Int) := by rw [IntKind.wrap_i64]; omega
      clear ho hk hbb hwj hy
      go_wp2_with fail
      (refine wp_region_held_drew (S := (fun X => X.cell? ⟨bb, 0, none⟩ = some (.pointer (some ⟨B.L.b, 0, none⟩)) ∧ X.cell? ⟨bb, 1, none⟩ = some (.int .i64 1) ∧ X.cell? ⟨w.heap.size, j, none⟩ = some (.int .u64 y))) (by kernel_rfl) ⟨b0, b1, r0⟩ (fun hHeld => ?_); simp only [List.size_toArray, List.length_cons, List.length_nil, Nat.reduceAdd, Array.replicate_succ, Array.replicate_zero, List.push_toArray, List.append_toArray, List.nil_append, List.cons_append])
      refine rgT 0 (h := ?_)
      refine rgT 1 (h := ?_)
      refine rgT 2 (h := ?_)
      refine rgT 3 (h := ?_)
      refine rgT 4 (h := ?_)
      refine rgT 5 (h := ?_)
      refine rgT 6 (h := ?_)
      refine rgT 7 (h := ?_)
      refine rgT 8 (h := ?_)
      refine rgT 9 (h := ?_)
      refine rgT 10 (h := ?_)
      refine rgT 11 (h := ?_)
      refine rgT 12 (h := ?_)
      refine rgT 13 (h := ?_)
      refine rgT 14 (h := ?_)
      (refine rgS 15 (h := fun K hK => ?_); go_simp)
      refine (bstore wr.drew B hB (mixS a.2 s j 0) (HQ.out.1.far (Keeps.refl (fun _ => False) _).drew (fun _ e => e.elim)) j h5 y HY.out).mono ?_
      rintro e w2 ⟨rfl, o2, k2⟩
      have kk : Keeps (fB B) w0 w2 := HQ.out.2.trans (((Keeps.refl (fB B) wr).drew).trans (k2.mono (fun x e => .inl e)))
      have HN : Hid (Bo B w2 (mixS a.2 s (j + 1) 0) ∧ Keeps (fB B) w0 w2) := ⟨by rw [← mix_word, HYY.out]; exact o2, kk⟩
      have hb2 := (HB.out w2 kk).1
      have r2 : w2.cell? ⟨w.heap.size, j, none⟩ = some (.int .u64 y) := by
        rw [HR.out w2 j kk (by omega), encS_at s j (by omega), if_pos (by omega), HYY.out]
      (refine hK.out _ _ ⟨(cell?_heap hb2 0).trans rfl, (cell?_heap hb2 1).trans rfl, r2⟩ (fun hHeld => ?_); clear hK K; try simp only [Act.put, List.setIfInBounds_toArray, List.set_cons_zero, List.set_cons_succ])
      refine wpAnyH_done (by kernel_rfl) ?_ _
      clear o2 k2 kk hb2 r2 b0 b1 r0 HQ
      go_wp2
      go_roundw
      case rel => exact ⟨j + 1, by go_num, by omega, HN.out.1, HN.out.2⟩
      case measure => simp [intOf]; omega
    · obtain rfl : j = B.wd := by omega
      have b2 := (cell?_heap hbb 2).trans rfl
      clear ho hk hbb
      go_wp2_with fail
      clear b2
      go_loopw [44] (fun c wr => ∃ t : Nat, c = .int .i64 t ∧ t ≤ B.n ∧ Bo B wr (mixS a.2 s B.wd t) ∧ Keeps (fB B) w0 wr) (fun c _ => B.n - (intOf c).toNat)
      case atStart => exact ⟨0, rfl, by omega, HQ.out.1, HQ.out.2⟩
      case round =>
        rename World => wq
        obtain ⟨t, rfl, ht, ho, hk⟩ := hrel
        have HQ2 : Hid (Bo B wq (mixS a.2 s B.wd t) ∧ Keeps (fB B) w0 wq) := ⟨ho, hk⟩
        have t0 : (0 : Int) ≤ (t : Int) := Int.natCast_nonneg _
        by_cases h6 : t < B.n
        · have t1 : (t : Int) < (B.n : Int) := by omega
          have ht4 : t < 4 := by omega
          have ot := owK (HF.out.1.ot) H0.out.1 (fun _ _ e => e)
          have cT : wq.cell? ⟨gt, t, none⟩ = some (.pointer (some ⟨B.T t, 0, none⟩)) := by
            rw [hk.cell (p := ⟨gt, t, none⟩) (own_lt ot rfl) (HF.out.1.nt gt rfl)]
            have : OwG thC 31 1 w0 0 (.slice (some ⟨gt, 0, none⟩) ((List.range B.n).map B.T).length ct) ((List.range B.n).map B.T) := by rw [List.length_map, List.length_range]; exact ot
            rw [World.ownsRow.cellAt this t (by simpa using h6)]
            have := flat_get thC 1 (fun _ => rfl) ((List.range B.n).map B.T) t (by simpa using h6) 0 (by decide)
            rw [Nat.mul_one, Nat.add_zero] at this
            rw [this]
            simp [thC]
          have hT := ho.th t h6
          have hTl : B.T t < w.heap.size := HF.out.1.o.lt (.inr ⟨t, h6, .inl rfl⟩)
          have hcp := run_copy_cells (P := Tryz.prog) wq.drew 46 46 3 55 (B.T t) 3 4 4 ⟨w.heap.size, 4 + 4 * t, none⟩ (20 - 4 * t) (20 - 4 * t) (rowU [s.rg t 0, s.rg t 1, s.rg t 2, s.rg t 3]) Tryz.underlying46 infoU1 (by show 4 = min (20 - 4 * t) 4; omega) (fun j v hj => by
            have hj2 : j < 4 := (List.getElem?_eq_some_iff.1 hj).1
            have e : (⟨w.heap.size, 4 + 4 * t, none⟩ : Addr).add j = ⟨w.heap.size, 4 + 4 * t + j, none⟩ := by unfold Addr.add; split <;> simp_all
            rw [e]
            show wq.cell? ⟨w.heap.size, 4 + 4 * t + j, none⟩ = some v
            rw [HR.out wq (4 + 4 * t + j) hk (by omega), encS_at s _ (by omega), if_neg (by omega), if_pos (by omega), show (4 + 4 * t + j - 4) / 4 = t by omega, show (4 + 4 * t + j - 4) % 4 = j by omega, ← hj]
            match j, hj2 with
            | 0, _ => rfl
            | 1, _ => rfl
            | 2, _ => rfl
            | 3, _ => rfl) (fun j hj => by
            have hj2 : j < 4 := hj
            show (wq.cell? ⟨B.T t, 3 + j, none⟩).isSome = true
            rw [hT.r j hj2]; rfl) (fun j hj => by
            show wq.frozen? ⟨B.T t, 3 + j, none⟩ = false
            exact hT.fz _) (rowU_one _)
          rw [show (rowU [s.rg t 0, s.rg t 1, s.rg t 2, s.rg t 3]).length = 4 from rfl] at hcp
          have m1 : IntKind.i64.wrap ((t : Int) * 4) = 4 * (t : Int) := by rw [IntKind.wrap_i64]; omega
          have m2 : IntKind.i64.wrap (4 + 4 * (t : Int)) = 4 + 4 * (t : Int) := by rw [IntKind.wrap_i64]; omega
          have hsl : ∀ X : World, (Instr.sliceAt 179 (.pointer (some ⟨w.heap.size, 0, none⟩)) (some (.int .i64 (4 + 4 * (t : Int)))) none none).run Tryz.prog X = .ok (.slice (some ⟨w.heap.size, 4 + 4 * t, none⟩) (20 - 4 * t) (20 - 4 * t)) X := fun X => slice_rest X w.heap.size t ht4
          clear ho hk ot hT hTl
          go_wp2_with fail
          (refine wp_region_held_drew (S := (fun _ => True)) (by kernel_rfl) trivial (fun hHeld => ?_); simp only [List.size_toArray, List.length_cons, List.length_nil, Nat.reduceAdd, Array.replicate_succ, Array.replicate_zero, List.push_toArray, List.append_toArray, List.nil_append, List.cons_append])
          refine rgT 0 (h := ?_)
          refine rgT 1 (h := ?_)
          refine rgT 2 (h := ?_)
          refine rgT 3 (h := ?_)
          refine rgT 4 (h := ?_)
          refine rgT 5 (h := ?_)
          refine rgT 6 (h := ?_)
          refine rgT 7 (h := ?_)
          (refine rgS 8 (h := fun K hK => ?_); go_simp)
          (refine hK.out _ _ trivial (fun hHeld => ?_); clear hK K; try simp only [Act.put, List.setIfInBounds_toArray, List.set_cons_zero, List.set_cons_succ])
          refine wpAnyH_done (by kernel_rfl) ?_ _
          have hTl : B.T t < w.heap.size := HF.out.1.o.lt (.inr ⟨t, h6, .inl rfl⟩)
          have od : Bo B wq.drew (mixS a.2 s B.wd t) := HQ2.out.1.far (Keeps.refl (fun _ => False) _).drew (fun _ e => e.elim)
          have k2 : Keeps (fun x => x = B.T t) wq (wq.drew.setCells (B.T t) 3 (rowU [s.rg t 0, s.rg t 1, s.rg t 2, s.rg t 3])) := keeps_cells (B := fun x => x = B.T t) rfl _ _ (Keeps.refl _ _).drew
          have cpl : (wq.drew.setCells (B.T t) 3 (rowU [s.rg t 0, s.rg t 1, s.rg t 2, s.rg t 3])).cell? ⟨w.heap.size, 20 + t, none⟩ = some (.int .u64 ((s.pl t : Nat) : Int)) := by
            rw [k2.cell (p := ⟨w.heap.size, 20 + t, none⟩) (Array.getElem?_eq_some_iff.1 (HB.out wq HQ2.out.2).2).1 (by show ¬ w.heap.size = B.T t; omega), HR.out wq (20 + t) HQ2.out.2 (by omega), encS_at s _ (by omega), if_neg (by omega), if_neg (by omega), show 20 + t - 20 = t by omega]
          have hT2 := ((((od.th t h6).setReg 0 (by decide) (s.rg t 0)).setReg 1 (by decide) (s.rg t 1)).setReg 2 (by decide) (s.rg t 2)).setReg 3 (by decide) (s.rg t 3)
          have c7 : (wq.drew.setCells (B.T t) 3 (rowU [s.rg t 0, s.rg t 1, s.rg t 2, s.rg t 3])).cell? ⟨B.T t, 7, none⟩ = some (.int .i64 (((mixS a.2 s B.wd t).pl t : Nat) : Int)) := hT2.p
          have f7 : (wq.drew.setCells (B.T t) 3 (rowU [s.rg t 0, s.rg t 1, s.rg t 2, s.rg t 3])).frozen? ⟨B.T t, 7, none⟩ = false := hT2.fz 7
          have hla := od.laid hB t h6 (s.rg t) (s.pl t) (fun j hj => by
            show s.rg t j = (if t < t then s.rg t else a.2.rg t) j
            rw [if_neg (by omega), HF.out.2.2.r t j (.inr hj), HF.out.2.1.r t j (.inr hj)])
          rw [mix_thread] at hla
          have kd : Keeps (fB B) w0 wq.drew := HQ2.out.2.drew
          have HN : Hid (Bo B ((wq.drew.setCells (B.T t) 3 (rowU [s.rg t 0, s.rg t 1, s.rg t 2, s.rg t 3])).setCell ⟨B.T t, 7, none⟩ (.int .i64 ((s.pl t : Nat) : Int))) (mixS a.2 s B.wd (t + 1)) ∧ Keeps (fB B) w0 ((wq.drew.setCells (B.T t) 3 (rowU [s.rg t 0, s.rg t 1, s.rg t 2, s.rg t 3])).setCell ⟨B.T t, 7, none⟩ (.int .i64 ((s.pl t : Nat) : Int)))) := ⟨hla.1, kd.trans hla.2⟩
          have hpt := hpl t h6
          generalize s.pl t = pv at *
          generalize (mixS a.2 s B.wd t).pl t = po at *
          have hp1 : wrap64 (pv : Int) = (pv : Int) := by unfold wrap64; omega
          clear hT2 hla kd od k2 hcp hsl m1 m2 cT HQ2 hTl
          generalize wq.drew.setCells (B.T t) 3 (rowU [s.rg t 0, s.rg t 1, s.rg t 2, s.rg t 3]) = w2 at *
          go_wp2
          go_roundw
          case rel => exact ⟨t + 1, by go_num, by omega, HN.out.1, HN.out.2⟩
          case measure => simp [intOf]; omega
        · obtain rfl : t = B.n := by omega
          rw [mix_all HF.out.2.1 HF.out.2.2] at ho
          have HE : Hid (BnF wq G B bb hb qb (.slice (some ⟨gt, 0, none⟩) B.n ct) (a.1, s) ∧ Keeps (fB B) w wq) := by
            have kk : Keeps (fB B) w wq := (H0.out.1.mono (fun _ e => e.elim)).trans hk
            exact ⟨HF.out.1.moved (D := fun _ => False) ho (kk.mono (fun _ e => .inr e)) (fun _ e => e.elim), kk⟩
          clear ho hk HQ2 HQ
          go_wp2
          refine ⟨rfl, .tuple #[], by simp [results, Tryz.results90], rfl, ?_⟩
          exact HE.out
end Go.Proofs.YtdpebhdjcgiboaaGreat
