import Derived.Test.YtegnmflbbpfdhaaGreatSh2
import Derived.Test.YtegnmflbbpfdhaaGreatSh3
namespace Go.Proofs.YtegnmflbbpfdhaaGreat
set_option linter.unusedSimpArgs false
open Go.ChangeShapes Go.WideShapes Go.ChangeAt Go.RowKit Go.MuLone Go.RwLone
set_option linter.unusedVariables false
set_option maxRecDepth 100000
set_option maxHeartbeats 3200000
theorem InG.wd {w : World} {C : Nat} {a : Option Addr} {n c : Nat} {xs : List Int} (h : InG wdC w C (.slice a n c) xs) (i : Nat) (hi : i < xs.length) : ∃ b off, a = some ⟨b, off, none⟩ ∧ b < C ∧ w.cell? ⟨b, off + i, none⟩ = some (.int .u64 xs[i]) := by
  obtain ⟨b, off, e, hl, hc⟩ := InG.cell (cs := wdC) (n := 1) (fun _ => rfl) h i hi (by decide)
  have := hc 0 (by decide)
  rw [Nat.mul_one, Nat.add_zero] at this
  exact ⟨b, off, e, hl, this⟩
/-- Two rows in sight that hold the begins and the ends of steps. -/
structure Two (w : World) (C : Nat) (fa : Option Addr) (fc : Nat) (la : Option Addr) (lc : Nat) (E : List (Int × Int)) : Prop where
  f : InG wdC w C (.slice fa E.length fc) (E.map Prod.fst)
  l : InG wdC w C (.slice la E.length lc) (E.map Prod.snd)
  n : E.length ≤ 100
theorem Two.later {w w' : World} {C : Nat} {fa : Option Addr} {fc : Nat} {la : Option Addr} {lc : Nat} {E : List (Int × Int)} (h : Two w C fa fc la lc E) (k : Below C w w') : Two w' C fa fc la lc E := ⟨h.f.later k, h.l.later k, h.n⟩
theorem Two.at {w : World} {C : Nat} {fa : Option Addr} {fc : Nat} {la : Option Addr} {lc : Nat} {E : List (Int × Int)} (h : Two w C fa fc la lc E) (i : Nat) (hi : i < E.length) : ∃ fb fo lb lo, fa = some ⟨fb, fo, none⟩ ∧ la = some ⟨lb, lo, none⟩ ∧ w.cell? ⟨fb, fo + i, none⟩ = some (.int .u64 E[i].1) ∧ w.cell? ⟨lb, lo + i, none⟩ = some (.int .u64 E[i].2) ∧ fb < C ∧ lb < C := by
  obtain ⟨fb, fo, e1, h1, c1⟩ := h.f.wd i (by simpa using hi)
  obtain ⟨lb, lo, e2, h2, c2⟩ := h.l.wd i (by simpa using hi)
  exact ⟨fb, fo, lb, lo, e1, e2, by simpa using c1, by simpa using c2, h1, h2⟩
theorem evS_take (x : Int) (E : List (Int × Int)) (t : Nat) (ht : t < E.length) : evS x (E.take (t + 1)) = evS x (E.take t) + (ifI (E[t].2 = x) - ifI (E[t].1 = x)) := by
  rw [List.take_succ_eq_append_getElem ht, evS_app]
  rfl
theorem even_any (w : World) (C : Nat) (x b e : Int) (fa : Option Addr) (fc : Nat) (la : Option Addr) (lc : Nat) (E : List (Int × Int)) (h : Two w C fa fc la lc E) (hev : evS x E + ifI (x = b) - ifI (x = e) = 0) :
    Calls Tryz.prog 23 #[.int .u64 x, .int .u64 b, .int .u64 e, .slice fa E.length fc, .slice la E.length lc] w fun r w' => r = .returned (.bool true) ∧ w' = w := by
  have H : Hid (Two w C fa fc la lc E ∧ evS x E + ifI (x = b) - ifI (x = e) = 0) := ⟨h, hev⟩
  have hn := h.n
  clear h hev
  go_enter Tryz.func23, Tryz.ntmps23
  go_wp2_with fail
  go_loopw [11, 12] (fun c d wr => ∃ (t : Nat) (y : Int), c = .int .i64 y ∧ d = .int .i64 t ∧ t ≤ E.length ∧ y = evS x (E.take t) ∧ wr = w) (fun _ d _ => E.length - (intOf d).toNat)
  case atStart => exact ⟨0, 0, rfl, rfl, by omega, rfl, rfl⟩
  case round =>
    obtain ⟨t, y, rfl, rfl, ht, hy, rfl⟩ := hrel
    have HY : Hid (y = evS x (E.take t)) := hy
    have hyb : -100 ≤ y ∧ y ≤ 100 := by
      have := evS_bound x (E.take t)
      rw [List.length_take] at this
      omega
    obtain ⟨hy1, hy2⟩ := hyb
    clear hy
    by_cases h5 : t < E.length
    · have t0 : (0 : Int) ≤ (t : Int) := Int.natCast_nonneg _
      have t1 : (t : Int) < (E.length : Int) := by omega
      obtain ⟨fb, fo, lb, lo, rfl, rfl, c1, c2, -, -⟩ := H.out.1.at t h5
      have HE := evS_take x E t h5
      have HEH : Hid (evS x (E.take (t + 1)) = evS x (E.take t) + (ifI (E[t].2 = x) - ifI (E[t].1 = x))) := HE
      clear HE
      generalize E[t] = p at *
      obtain ⟨p1, p2⟩ := p
      dsimp only at c1 c2 HEH
      obtain ⟨y1, hh1⟩ : ∃ y1, y1 = y - 1 := ⟨_, rfl⟩
      obtain ⟨y2, hh2⟩ : ∃ y2, y2 = y + 1 := ⟨_, rfl⟩
      have w1 : IntKind.i64.wrap (y - 1) = y1 := by rw [IntKind.wrap_i64]; omega
      have w2 : IntKind.i64.wrap (y + 1) = y2 := by rw [IntKind.wrap_i64]; omega
      have w3 : IntKind.i64.wrap (y1 + 1) = y := by rw [IntKind.wrap_i64]; omega
      have HH : Hid (y1 = y - 1 ∧ y2 = y + 1) := ⟨hh1, hh2⟩
      clear hh1 hh2 hy1 hy2
      by_cases q1 : p1 = x
      · by_cases q2 : p2 = x
        · have HN : Hid (y = evS x (E.take (t + 1))) := by
            show _ = _
            rw [HEH.out, ← HY.out]; simp [ifI, q1, q2]
          subst q1
          rw [q2] at c2
          clear q2 HEH
          go_wp2
          go_roundw
          case rel => exact ⟨t + 1, _, rfl, by go_num, by omega, HN.out, trivial⟩
          case measure => simp [intOf]; omega
        · have HN : Hid (y1 = evS x (E.take (t + 1))) := by
            show _ = _
            rw [HEH.out, ← HY.out, HH.out.1]; simp [ifI, q1, q2]; omega
          subst q1
          clear HEH
          go_wp2
          go_roundw
          case rel => exact ⟨t + 1, _, rfl, by go_num, by omega, HN.out, trivial⟩
          case measure => simp [intOf]; omega
      · by_cases q2 : p2 = x
        · have HN : Hid (y2 = evS x (E.take (t + 1))) := by
            show _ = _
            rw [HEH.out, ← HY.out, HH.out.2]; simp [ifI, q1, q2]
          subst q2
          clear HEH
          go_wp2
          go_roundw
          case rel => exact ⟨t + 1, _, rfl, by go_num, by omega, HN.out, trivial⟩
          case measure => simp [intOf]; omega
        · have HN : Hid (y = evS x (E.take (t + 1))) := by
            show _ = _
            rw [HEH.out, ← HY.out]; simp [ifI, q1, q2]
          clear HEH
          go_wp2
          go_roundw
          case rel => exact ⟨t + 1, _, rfl, by go_num, by omega, HN.out, trivial⟩
          case measure => simp [intOf]; omega
    · have HZ : Hid (y + ifI (x = b) - ifI (x = e) = 0) := by
        show _ = _
        have := H.out.2
        rw [HY.out, List.take_of_length_le (by omega)]
        exact this
      obtain ⟨y1, hh1⟩ : ∃ y1, y1 = y - 1 := ⟨_, rfl⟩
      obtain ⟨y2, hh2⟩ : ∃ y2, y2 = y + 1 := ⟨_, rfl⟩
      have w1 : IntKind.i64.wrap (y - 1) = y1 := by rw [IntKind.wrap_i64]; omega
      have w2 : IntKind.i64.wrap (y + 1) = y2 := by rw [IntKind.wrap_i64]; omega
      have w4 : IntKind.i64.wrap (y2 - 1) = y := by rw [IntKind.wrap_i64]; omega
      by_cases q1 : x = b
      · by_cases q2 : x = e
        · have z : y = 0 := by have := HZ.out; simp [ifI, q1] at this; rw [← q1, q2] at this; simpa using this
          subst z q1
          rw [← q2]
          clear hh1 hh2 hy1 hy2 w1
          go_wp2
          go_ret
          exact ⟨rfl, rfl⟩
        · have z : y2 = 0 := by have := HZ.out; simp [ifI, q2] at this; rw [if_pos q1] at this; omega
          subst z q1
          clear hh1 hh2 hy1 hy2 w1 w4
          go_wp2
          go_ret
          exact ⟨rfl, rfl⟩
      · by_cases q2 : x = e
        · have z : y1 = 0 := by have := HZ.out; simp [ifI, q1] at this; rw [if_pos q2] at this; omega
          subst z q2
          clear hh1 hh2 hy1 hy2 w2 w4
          go_wp2
          go_ret
          exact ⟨rfl, rfl⟩
        · have z : y = 0 := by have := HZ.out; simpa [ifI, q1, q2] using this
          subst z
          clear hh1 hh2 hy1 hy2 w1 w2 w4
          go_wp2
          go_ret
          exact ⟨rfl, rfl⟩
end Go.Proofs.YtegnmflbbpfdhaaGreat

namespace Go.Proofs.YtegnmflbbpfdhaaGreat
set_option linter.unusedSimpArgs false
open Go.ChangeShapes Go.WideShapes Go.ChangeAt Go.RowKit Go.MuLone Go.RwLone
set_option linter.unusedVariables false
set_option maxRecDepth 100000
set_option maxHeartbeats 3200000
/-- A row of bools in its block. -/
structure BR (w : World) (g m : Nat) (R : Nat → Bool) : Prop where
  c : ∀ j, j < m → w.cell? ⟨g, j, none⟩ = some (.bool (R j))
  f : ∀ j, w.frozen? ⟨g, j, none⟩ = false
theorem BR.set {w : World} {g m : Nat} {R : Nat → Bool} (h : BR w g m R) (i : Nat) (hi : i < m) : BR (w.setCell ⟨g, i, none⟩ (.bool true)) g m (upd R i true) := by
  refine ⟨fun j hj => ?_, fun j => by simpa using h.f j⟩
  by_cases e : j = i
  · subst e
    rw [upd_same]
    exact World.cell?_setCell_same _ _ _ (h.c j hj)
  · rw [upd_other _ _ e, World.cell?_setCell_other _ _ _ _ (fun e' => e (congrArg Addr.off e').symm)]
    exact h.c j hj
def unrB (v : Option Value) : Bool := match v with | some (.bool false) => true | _ => false
def unrW (g m : Nat) (w : World) : Nat := (List.range m).countP (fun j => unrB (w.cell? ⟨g, j, none⟩))
def bitB (v : Value) : Nat := match v with | .bool true => 1 | _ => 0
theorem BR.unr {w : World} {g m : Nat} {R : Nat → Bool} (h : BR w g m R) : unrW g m w = (List.range m).countP (fun j => !R j) := by
  unfold unrW
  apply List.countP_congr
  intro j hj
  rw [h.c j (List.mem_range.1 hj)]
  cases R j <;> simp [unrB]
theorem cnt_le {R R' : Nat → Bool} (h : ∀ j, R j = true → R' j = true) : ∀ m, (List.range m).countP (fun j => !R' j) ≤ (List.range m).countP (fun j => !R j) ∧ ((∃ k, k < m ∧ R k = false ∧ R' k = true) → (List.range m).countP (fun j => !R' j) < (List.range m).countP (fun j => !R j))
  | 0 => ⟨Nat.le_refl _, fun ⟨k, hk, _⟩ => by omega⟩
  | m + 1 => by
    have ih := cnt_le h m
    rw [List.range_succ, List.countP_append, List.countP_append]
    have a : ∀ R : Nat → Bool, List.countP (fun j => !R j) [m] = bif R m then 0 else 1 := fun R => by cases e : R m <;> simp [e]
    rw [a R, a R']
    have hm := h m
    have h1 := ih.1
    refine ⟨?_, fun ⟨k, hk, k1, k2⟩ => ?_⟩
    · cases e1 : R m <;> cases e2 : R' m <;> simp only [cond_true, cond_false] <;> first | omega | (rw [hm e1] at e2; cases e2)
    · by_cases e : k = m
      · subst e
        rw [k1, k2]
        simp only [cond_true, cond_false]
        omega
      · have h2 := ih.2 ⟨k, by omega, k1, k2⟩
        cases e1 : R m <;> cases e2 : R' m <;> simp only [cond_true, cond_false] <;> first | omega | (rw [hm e1] at e2; cases e2)
def clAt (E : List (Int × Int)) (b : Int) (R : Nat → Bool) (i : Nat) : Prop := ∀ hi : i < E.length, (E[i].1 = b ∨ ∃ j, ∃ hj : j < E.length, R j = true ∧ E[j].2 = E[i].1) → R i = true
theorem infoBool : (Tryz.prog.info? 4).map (fun i => (i.zero, i.size, i.bytes)) = some (some (.bool false), 1, 1) := by kernel_rfl
abbrev chW (w : World) (m : Nat) : World := w.alloc (.cells (madeCells #[.bool false] m) 4)
theorem chW_br (w : World) (m : Nat) : BR (chW w m) w.heap.size m (fun _ => false) := by
  have e : (chW w m).heap[w.heap.size]? = some (.cells (madeCells #[.bool false] m) 4) := heap_alloc_last _ _ _ rfl
  refine ⟨fun j hj => ?_, fun j => frozen?_heap e j⟩
  rw [cell?_heap e j]
  rw [← Array.getElem?_toList, toList_madeCells_one]
  simp [hj]
theorem chain_any (w : World) (C : Nat) (hC : C ≤ w.heap.size) (b e : Int) (fa : Option Addr) (fc : Nat) (la : Option Addr) (lc : Nat) (E es : List (Int × Int)) (h : Two w C fa fc la lc E) (hp : pathE b es e) (hq : es.Perm E) (b0 : 0 ≤ b) (b1 : b < 18446744073709551616) (e0 : 0 ≤ e) (e1 : e < 18446744073709551616) :
    Calls Tryz.prog 10 #[.int .u64 b, .slice fa E.length fc, .slice la E.length lc] w fun r w' => r = .returned (.bool true) ∧ Below w.heap.size w w' := by
  have hn := h.n
  have hm := run_make_any (P := Tryz.prog) 78 4 _ 1 1 Tryz.underlying78 infoBool E.length (by omega) (by omega)
  have k0 : Keeps (fun x => x = w.heap.size) w ((w.alloc (.cells (madeCells #[.bool false] E.length) 4))) := (Keeps.refl _ _).alloc _
  have H : Hid (∀ W, Keeps (fun x => x = w.heap.size) ((w.alloc (.cells (madeCells #[.bool false] E.length) 4))) W → Two W C fa fc la lc E) := fun W k => h.later ((k0.trans k).below hC (fun k hk e => by omega))
  have HR : Hid (BR ((w.alloc (.cells (madeCells #[.bool false] E.length) 4))) w.heap.size E.length (fun _ => false)) := chW_br w _
  have HK0 : Hid (Keeps (fun x => x = w.heap.size) w ((w.alloc (.cells (madeCells #[.bool false] E.length) 4)))) := k0
  have HP : Hid (pathE b es e ∧ es.Perm E) := ⟨hp, hq⟩
  clear h k0 hp hq
  go_enter Tryz.func10, Tryz.ntmps10
  go_wp2_with fail
  clear hm
  generalize (w.alloc (.cells (madeCells #[.bool false] E.length) 4)) = w1 at *
  go_loopw [8] (fun c wr => ∃ (ag : Bool) (R : Nat → Bool), c = .bool ag ∧ BR wr w.heap.size E.length R ∧ Keeps (fun x => x = w.heap.size) w1 wr ∧ (ag = false → ∀ i, clAt E b R i)) (fun c wr => unrW w.heap.size E.length wr + bitB c)
  case atStart => exact ⟨true, _, rfl, HR.out, Keeps.refl _ _, fun e => by cases e⟩
  case round =>
    obtain ⟨ag, R, rfl, hbr, hk, hcl⟩ := hrel
    clear HR
    cases ag with
    | true =>
      have HQ : Hid (BR wr w.heap.size E.length R ∧ Keeps (fun x => x = w.heap.size) w1 wr) := ⟨hbr, hk⟩
      clear hbr hk hcl
      go_wp2_with fail
      go_loopw [8, 9] (fun c d wq => ∃ (ag : Bool) (t : Nat) (R' : Nat → Bool), c = .bool ag ∧ d = .int .i64 t ∧ t ≤ E.length ∧ BR wq w.heap.size E.length R' ∧ Keeps (fun x => x = w.heap.size) w1 wq ∧ (∀ j, R j = true → R' j = true) ∧ (ag = true → ∃ k, k < E.length ∧ R k = false ∧ R' k = true) ∧ (ag = false → R' = R ∧ ∀ i, i < t → clAt E b R i)) (fun _ d _ => E.length - (intOf d).toNat)
      case atStart => exact ⟨false, 0, R, rfl, rfl, by omega, HQ.out.1, HQ.out.2, fun _ h => h, (fun e => by cases e), fun _ => ⟨rfl, fun i hi => by omega⟩⟩
      case round =>
        obtain ⟨ag, t, R', rfl, rfl, ht, hbr, hk, hle, hag1, hag0⟩ := hrel
        have HQ2 : Hid (BR wr w.heap.size E.length R' ∧ Keeps (fun x => x = w.heap.size) w1 wr) := ⟨hbr, hk⟩
        have HA : Hid ((∀ j, R j = true → R' j = true) ∧ (ag = true → ∃ k, k < E.length ∧ R k = false ∧ R' k = true) ∧ (ag = false → R' = R ∧ ∀ i, i < t → clAt E b R i)) := ⟨hle, hag1, hag0⟩
        clear hbr hk hle hag1 hag0
        by_cases h5 : t < E.length
        · have t0 : (0 : Int) ≤ (t : Int) := Int.natCast_nonneg _
          have t1 : (t : Int) < (E.length : Int) := by omega
          have cR := HQ2.out.1.c t h5
          obtain ⟨fb, fo, lb, lo, rfl, rfl, c1, -, hfb, hlb⟩ := (H.out wr HQ2.out.2).at t h5
          cases hR : R' t with
          | true =>
            rw [hR] at cR
            have HN : Hid ((ag = false → R' = R ∧ ∀ i, i < t + 1 → clAt E b R i)) := fun e => by
              obtain ⟨q1, q2⟩ := HA.out.2.2 e
              refine ⟨q1, fun i hi => ?_⟩
              by_cases ei : i = t
              · subst ei
                exact fun _ _ => by rw [← q1]; exact hR
              · exact q2 i (by omega)
            have HT : Hid (R' t = true) := hR
            clear hR c1
            go_wp2
            go_roundw
            case rel => exact ⟨ag, t + 1, R', rfl, by go_num, by omega, HQ2.out.1, HQ2.out.2, HA.out.1, HA.out.2.1, HN.out⟩
            case measure => simp [intOf]; omega
          | false =>
            rw [hR] at cR
            have HT : Hid (R' t = false) := hR
            clear hR
            obtain ⟨f1, hf1⟩ : ∃ f1, E[t].1 = f1 := ⟨_, rfl⟩
            rw [hf1] at c1
            have HF : Hid (∀ _ : Unit, E[t].1 = f1) := fun _ => hf1
            clear hf1
            go_wp2_with fail
            clear cR c1
            go_loopw [10, 11] (fun c d wy => ∃ (ok : Bool) (u : Nat), c = .bool ok ∧ d = .int .i64 u ∧ u ≤ E.length ∧ BR wy w.heap.size E.length R' ∧ Keeps (fun x => x = w.heap.size) w1 wy ∧ (ok = true ↔ (f1 = b ∨ ∃ j, ∃ hj : j < E.length, j < u ∧ R' j = true ∧ E[j].2 = f1))) (fun _ d _ => E.length - (intOf d).toNat)
            case atStart => exact ⟨_, 0, rfl, rfl, by omega, HQ2.out.1, HQ2.out.2, by
                constructor
                · intro h
                  left
                  simpa using h
                · rintro (h | ⟨j, hj, h, _⟩)
                  · simpa using h
                  · omega⟩
            case round =>
              obtain ⟨ok, u, rfl, rfl, hu, hbr, hk, hok⟩ := hrel
              have HQ3 : Hid (BR wr w.heap.size E.length R' ∧ Keeps (fun x => x = w.heap.size) w1 wr ∧ (ok = true ↔ (f1 = b ∨ ∃ j, ∃ hj : j < E.length, j < u ∧ R' j = true ∧ E[j].2 = f1))) := ⟨hbr, hk, hok⟩
              clear hbr hk hok HQ2
              by_cases h6 : u < E.length
              · have u0 : (0 : Int) ≤ (u : Int) := Int.natCast_nonneg _
                have u1 : (u : Int) < (E.length : Int) := by omega
                have cU := HQ3.out.1.c u h6
                obtain ⟨fb', fo', lb', lo', q1, q2, c1, -, -, -⟩ := (H.out wr HQ3.out.2.1).at t h5
                obtain ⟨fb'', fo'', lb'', lo'', q3, q4, -, c2, -, -⟩ := (H.out wr HQ3.out.2.1).at u h6
                injection q1 with q1
                injection q1 with q1 q1'
                injection q4 with q4
                injection q4 with q4 q4'
                subst q1 q1' q4 q4'
                rw [HF.out ()] at c1
                clear q2 q3
                obtain ⟨l2, hl2⟩ : ∃ l2, E[u].2 = l2 := ⟨_, rfl⟩
                rw [hl2] at c2
                have HL : Hid (∀ _ : Unit, E[u].2 = l2) := fun _ => hl2
                clear hl2
                have HD : Hid (BR wr.drew w.heap.size E.length R' ∧ Keeps (fun x => x = w.heap.size) w1 wr.drew) := ⟨⟨HQ3.out.1.c, HQ3.out.1.f⟩, HQ3.out.2.1.drew⟩
                cases hU : R' u with
                | true =>
                  rw [hU] at cU
                  have HN : Hid ((l2 = f1 → (true = true ↔ (f1 = b ∨ ∃ j, ∃ hj : j < E.length, j < u + 1 ∧ R' j = true ∧ E[j].2 = f1))) ∧ (¬ l2 = f1 → (ok = true ↔ (f1 = b ∨ ∃ j, ∃ hj : j < E.length, j < u + 1 ∧ R' j = true ∧ E[j].2 = f1)))) := by
                    refine ⟨fun e => ⟨fun _ => .inr ⟨u, h6, by omega, hU, (HL.out ()).trans e⟩, fun _ => rfl⟩, fun e => ?_⟩
                    refine HQ3.out.2.2.trans (or_congr Iff.rfl ⟨fun ⟨j, hj, a1, a2⟩ => ⟨j, hj, by omega, a2⟩, fun ⟨j, hj, a1, a2, a3⟩ => ⟨j, hj, ?_, a2, a3⟩⟩)
                    rcases Nat.lt_or_ge j u with h | h
                    · exact h
                    · obtain rfl : j = u := by omega
                      exact absurd ((HL.out ()).symm.trans a3) e
                  clear hU
                  go_wp2_with fail
                  (refine wp_region_held_drew (S := (fun V => V.cell? ⟨w.heap.size, u, none⟩ = some (.bool true) ∧ V.cell? ⟨lb, lo + u, none⟩ = some (.int .u64 l2) ∧ V.cell? ⟨fb, fo + t, none⟩ = some (.int .u64 f1))) (by kernel_rfl) ⟨cU, c2, c1⟩ (fun hHeld => ?_); simp only [List.size_toArray, List.length_cons, List.length_nil, Nat.reduceAdd, Array.replicate_succ, Array.replicate_zero, List.push_toArray, List.append_toArray, List.nil_append, List.cons_append])
                  (refine tk0 (v := ?_) (by kernel_rfl) (by kernel_rfl) (by kernel_rfl) (fun _ _ _ h => h) (Or.inl ⟨by rfl, ?_⟩) (by assumption) ?_; rotate_left; (focus (intro w hSw; (try dsimp only at hSw); go_simp; (try first | (rw [dif_pos (by omega)]; simp only [Result.andThen_ok]) | rw [if_pos (by omega)]); (try with_reducible rfl); done)); try simp only [Act.put, List.setIfInBounds_toArray, List.set_cons_zero, List.set_cons_succ])
                  (refine tk1 (v := ?_) (by kernel_rfl) (by kernel_rfl) (by kernel_rfl) (fun _ _ _ h => h) (Or.inl ⟨by rfl, ?_⟩) (by assumption) ?_; rotate_left; (focus (intro w hSw; (try dsimp only at hSw); go_simp; (try first | (rw [dif_pos (by omega)]; simp only [Result.andThen_ok]) | rw [if_pos (by omega)]); (try with_reducible rfl); done)); try simp only [Act.put, List.setIfInBounds_toArray, List.set_cons_zero, List.set_cons_succ])
                  (refine tk2 (v := ?_) (by kernel_rfl) (by kernel_rfl) (by kernel_rfl) (fun _ _ _ h => h) (Or.inl ⟨by rfl, ?_⟩) (by assumption) ?_; rotate_left; (focus (intro w hSw; (try dsimp only at hSw); go_simp; (try first | (rw [dif_pos (by omega)]; simp only [Result.andThen_ok]) | rw [if_pos (by omega)]); (try with_reducible rfl); done)); try simp only [Act.put, List.setIfInBounds_toArray, List.set_cons_zero, List.set_cons_succ])
                  (refine tk3 (v := ?_) (by kernel_rfl) (by kernel_rfl) (by kernel_rfl) (fun _ _ _ h => h) (Or.inl ⟨by rfl, ?_⟩) (by assumption) ?_; rotate_left; (focus (intro w hSw; (try dsimp only at hSw); go_simp; (try first | (rw [dif_pos (by omega)]; simp only [Result.andThen_ok]) | rw [if_pos (by omega)]); (try with_reducible rfl); done)); try simp only [Act.put, List.setIfInBounds_toArray, List.set_cons_zero, List.set_cons_succ])
                  (refine tk4 (v := ?_) (by kernel_rfl) (by kernel_rfl) (by kernel_rfl) (fun _ _ _ h => h) (Or.inl ⟨by rfl, ?_⟩) (by assumption) ?_; rotate_left; (focus (intro w hSw; (try dsimp only at hSw); go_simp; (try first | (rw [dif_pos (by omega)]; simp only [Result.andThen_ok]) | rw [if_pos (by omega)]); (try with_reducible rfl); done)); try simp only [Act.put, List.setIfInBounds_toArray, List.set_cons_zero, List.set_cons_succ])
                  (refine tk5 (v := ?_) (by kernel_rfl) (by kernel_rfl) (by kernel_rfl) (fun _ _ _ h => h) (Or.inl ⟨by rfl, ?_⟩) (by assumption) ?_; rotate_left; (focus (intro w hSw; (try dsimp only at hSw); go_simp; (try first | (rw [dif_pos (by omega)]; simp only [Result.andThen_ok]) | rw [if_pos (by omega)]); (try with_reducible rfl); done)); try simp only [Act.put, List.setIfInBounds_toArray, List.set_cons_zero, List.set_cons_succ])
                  (refine tk6 (v := ?_) (by kernel_rfl) (by kernel_rfl) (by kernel_rfl) (fun _ _ _ h => h) (Or.inl ⟨by rfl, ?_⟩) (by assumption) ?_; rotate_left; (focus (intro w hSw; (try dsimp only at hSw); go_simp; (try first | (rw [dif_pos (by omega)]; simp only [Result.andThen_ok]) | rw [if_pos (by omega)]); (try with_reducible rfl); done)); try simp only [Act.put, List.setIfInBounds_toArray, List.set_cons_zero, List.set_cons_succ])
                  (refine tk7 (v := ?_) (by kernel_rfl) (by kernel_rfl) (by kernel_rfl) (fun _ _ _ h => h) (Or.inl ⟨by rfl, ?_⟩) (by assumption) ?_; rotate_left; (focus (intro w hSw; (try dsimp only at hSw); go_simp; (try first | (rw [dif_pos (by omega)]; simp only [Result.andThen_ok]) | rw [if_pos (by omega)]); (try with_reducible rfl); done)); try simp only [Act.put, List.setIfInBounds_toArray, List.set_cons_zero, List.set_cons_succ])
                  (refine tk8 (v := ?_) (by kernel_rfl) (by kernel_rfl) (by kernel_rfl) (fun _ _ _ h => h) (Or.inl ⟨by rfl, ?_⟩) (by assumption) ?_; rotate_left; (focus (intro w hSw; (try dsimp only at hSw); go_simp; (try first | (rw [dif_pos (by omega)]; simp only [Result.andThen_ok]) | rw [if_pos (by omega)]); (try with_reducible rfl); done)); try simp only [Act.put, List.setIfInBounds_toArray, List.set_cons_zero, List.set_cons_succ])
                  (refine tk9 (v := ?_) (by kernel_rfl) (by kernel_rfl) (by kernel_rfl) (fun _ _ _ h => h) (Or.inl ⟨by rfl, ?_⟩) (by assumption) ?_; rotate_left; (focus (intro w hSw; (try dsimp only at hSw); go_simp; (try first | (rw [dif_pos (by omega)]; simp only [Result.andThen_ok]) | rw [if_pos (by omega)]); (try with_reducible rfl); done)); try simp only [Act.put, List.setIfInBounds_toArray, List.set_cons_zero, List.set_cons_succ])
                  (refine tk10 (v := ?_) (by kernel_rfl) (by kernel_rfl) (by kernel_rfl) (fun _ _ _ h => h) (Or.inl ⟨by rfl, ?_⟩) (by assumption) ?_; rotate_left; (focus (intro w hSw; (try dsimp only at hSw); go_simp; (try first | (rw [dif_pos (by omega)]; simp only [Result.andThen_ok]) | rw [if_pos (by omega)]); (try with_reducible rfl); done)); try simp only [Act.put, List.setIfInBounds_toArray, List.set_cons_zero, List.set_cons_succ])
                  (refine tk11 (v := ?_) (by kernel_rfl) (by kernel_rfl) (by kernel_rfl) (fun _ _ _ h => h) (Or.inl ⟨by rfl, ?_⟩) (by assumption) ?_; rotate_left; (focus (intro w hSw; (try dsimp only at hSw); go_simp; (try first | (rw [dif_pos (by omega)]; simp only [Result.andThen_ok]) | rw [if_pos (by omega)]); (try with_reducible rfl); done)); try simp only [Act.put, List.setIfInBounds_toArray, List.set_cons_zero, List.set_cons_succ])
                  (refine tk12 (v := ?_) (by kernel_rfl) (by kernel_rfl) (by kernel_rfl) (fun _ _ _ h => h) (Or.inl ⟨by rfl, ?_⟩) (by assumption) ?_; rotate_left; (focus (intro w hSw; (try dsimp only at hSw); go_simp; (try first | (rw [dif_pos (by omega)]; simp only [Result.andThen_ok]) | rw [if_pos (by omega)]); (try with_reducible rfl); done)); try simp only [Act.put, List.setIfInBounds_toArray, List.set_cons_zero, List.set_cons_succ])
                  (refine tk13 (v := ?_) (by kernel_rfl) (by kernel_rfl) (by kernel_rfl) (fun _ _ _ h => h) (Or.inl ⟨by rfl, ?_⟩) (by assumption) ?_; rotate_left; (focus (intro w hSw; (try dsimp only at hSw); go_simp; (try first | (rw [dif_pos (by omega)]; simp only [Result.andThen_ok]) | rw [if_pos (by omega)]); (try with_reducible rfl); done)); try simp only [Act.put, List.setIfInBounds_toArray, List.set_cons_zero, List.set_cons_succ])
                  (refine tk14 (v := ?_) (by kernel_rfl) (by kernel_rfl) (by kernel_rfl) (fun _ _ _ h => h) (Or.inl ⟨by rfl, ?_⟩) (by assumption) ?_; rotate_left; (focus (intro w hSw; (try dsimp only at hSw); go_simp; (try first | (rw [dif_pos (by omega)]; simp only [Result.andThen_ok]) | rw [if_pos (by omega)]); (try with_reducible rfl); done)); try simp only [Act.put, List.setIfInBounds_toArray, List.set_cons_zero, List.set_cons_succ])
                  refine wpAnyH_done (by kernel_rfl) ?_ _
                  clear cU c1 c2 HL
                  by_cases hlf : l2 = f1
                  · have HN1 : Hid (true = true ↔ (f1 = b ∨ ∃ j, ∃ hj : j < E.length, j < u + 1 ∧ R' j = true ∧ E[j].2 = f1)) := ⟨fun _ => (HN.out.1 hlf).1 (by trivial), fun _ => rfl⟩
                    subst hlf
                    go_wp2
                    go_roundw
                    case rel => exact ⟨true, u + 1, rfl, by go_num, by omega, HD.out.1, HD.out.2, HN1.out⟩
                    case measure => simp [intOf]; omega
                  · have HN1 : Hid (ok = true ↔ (f1 = b ∨ ∃ j, ∃ hj : j < E.length, j < u + 1 ∧ R' j = true ∧ E[j].2 = f1)) := HN.out.2 hlf
                    go_wp2
                    go_roundw
                    case rel => exact ⟨ok, u + 1, rfl, by go_num, by omega, HD.out.1, HD.out.2, HN1.out⟩
                    case measure => simp [intOf]; omega
                | false =>
                  rw [hU] at cU
                  have HN : Hid (ok = true ↔ (f1 = b ∨ ∃ j, ∃ hj : j < E.length, j < u + 1 ∧ R' j = true ∧ E[j].2 = f1)) := by
                    refine HQ3.out.2.2.trans (or_congr Iff.rfl ⟨fun ⟨j, hj, a1, a2⟩ => ⟨j, hj, by omega, a2⟩, fun ⟨j, hj, a1, a2, a3⟩ => ⟨j, hj, ?_, a2, a3⟩⟩)
                    rcases Nat.lt_or_ge j u with h | h
                    · exact h
                    · obtain rfl : j = u := by omega
                      rw [hU] at a2
                      cases a2
                  clear hU
                  go_wp2_with fail
                  (refine wp_region_held_drew (S := (fun V => V.cell? ⟨w.heap.size, u, none⟩ = some (.bool false))) (by kernel_rfl) cU (fun hHeld => ?_); simp only [List.size_toArray, List.length_cons, List.length_nil, Nat.reduceAdd, Array.replicate_succ, Array.replicate_zero, List.push_toArray, List.append_toArray, List.nil_append, List.cons_append])
                  (refine tk0 (v := ?_) (by kernel_rfl) (by kernel_rfl) (by kernel_rfl) (fun _ _ _ h => h) (Or.inl ⟨by rfl, ?_⟩) (by assumption) ?_; rotate_left; (focus (intro w hSw; (try dsimp only at hSw); go_simp; (try first | (rw [dif_pos (by omega)]; simp only [Result.andThen_ok]) | rw [if_pos (by omega)]); (try with_reducible rfl); done)); try simp only [Act.put, List.setIfInBounds_toArray, List.set_cons_zero, List.set_cons_succ])
                  (refine tk1 (v := ?_) (by kernel_rfl) (by kernel_rfl) (by kernel_rfl) (fun _ _ _ h => h) (Or.inl ⟨by rfl, ?_⟩) (by assumption) ?_; rotate_left; (focus (intro w hSw; (try dsimp only at hSw); go_simp; (try first | (rw [dif_pos (by omega)]; simp only [Result.andThen_ok]) | rw [if_pos (by omega)]); (try with_reducible rfl); done)); try simp only [Act.put, List.setIfInBounds_toArray, List.set_cons_zero, List.set_cons_succ])
                  (refine tk2 (v := ?_) (by kernel_rfl) (by kernel_rfl) (by kernel_rfl) (fun _ _ _ h => h) (Or.inl ⟨by rfl, ?_⟩) (by assumption) ?_; rotate_left; (focus (intro w hSw; (try dsimp only at hSw); go_simp; (try first | (rw [dif_pos (by omega)]; simp only [Result.andThen_ok]) | rw [if_pos (by omega)]); (try with_reducible rfl); done)); try simp only [Act.put, List.setIfInBounds_toArray, List.set_cons_zero, List.set_cons_succ])
                  (refine tk3 (v := ?_) (by kernel_rfl) (by kernel_rfl) (by kernel_rfl) (fun _ _ _ h => h) (Or.inl ⟨by rfl, ?_⟩) (by assumption) ?_; rotate_left; (focus (intro w hSw; (try dsimp only at hSw); go_simp; (try first | (rw [dif_pos (by omega)]; simp only [Result.andThen_ok]) | rw [if_pos (by omega)]); (try with_reducible rfl); done)); try simp only [Act.put, List.setIfInBounds_toArray, List.set_cons_zero, List.set_cons_succ])
                  (refine tk4 (v := ?_) (by kernel_rfl) (by kernel_rfl) (by kernel_rfl) (fun _ _ _ h => h) (Or.inl ⟨by rfl, ?_⟩) (by assumption) ?_; rotate_left; (focus (intro w hSw; (try dsimp only at hSw); go_simp; (try first | (rw [dif_pos (by omega)]; simp only [Result.andThen_ok]) | rw [if_pos (by omega)]); (try with_reducible rfl); done)); try simp only [Act.put, List.setIfInBounds_toArray, List.set_cons_zero, List.set_cons_succ])
                  (refine tk5 (v := undef) (by kernel_rfl) (by kernel_rfl) (by kernel_rfl) (fun _ _ _ h => h) (Or.inr ⟨by rfl, rfl⟩) (by assumption) ?_; try simp only [Act.put, List.setIfInBounds_toArray, List.set_cons_zero, List.set_cons_succ])
                  (refine tk6 (v := undef) (by kernel_rfl) (by kernel_rfl) (by kernel_rfl) (fun _ _ _ h => h) (Or.inr ⟨by rfl, rfl⟩) (by assumption) ?_; try simp only [Act.put, List.setIfInBounds_toArray, List.set_cons_zero, List.set_cons_succ])
                  (refine tk7 (v := undef) (by kernel_rfl) (by kernel_rfl) (by kernel_rfl) (fun _ _ _ h => h) (Or.inr ⟨by rfl, rfl⟩) (by assumption) ?_; try simp only [Act.put, List.setIfInBounds_toArray, List.set_cons_zero, List.set_cons_succ])
                  (refine tk8 (v := undef) (by kernel_rfl) (by kernel_rfl) (by kernel_rfl) (fun _ _ _ h => h) (Or.inr ⟨by rfl, rfl⟩) (by assumption) ?_; try simp only [Act.put, List.setIfInBounds_toArray, List.set_cons_zero, List.set_cons_succ])
                  (refine tk9 (v := undef) (by kernel_rfl) (by kernel_rfl) (by kernel_rfl) (fun _ _ _ h => h) (Or.inr ⟨by rfl, rfl⟩) (by assumption) ?_; try simp only [Act.put, List.setIfInBounds_toArray, List.set_cons_zero, List.set_cons_succ])
                  (refine tk10 (v := undef) (by kernel_rfl) (by kernel_rfl) (by kernel_rfl) (fun _ _ _ h => h) (Or.inr ⟨by rfl, rfl⟩) (by assumption) ?_; try simp only [Act.put, List.setIfInBounds_toArray, List.set_cons_zero, List.set_cons_succ])
                  (refine tk11 (v := undef) (by kernel_rfl) (by kernel_rfl) (by kernel_rfl) (fun _ _ _ h => h) (Or.inr ⟨by rfl, rfl⟩) (by assumption) ?_; try simp only [Act.put, List.setIfInBounds_toArray, List.set_cons_zero, List.set_cons_succ])
                  (refine tk12 (v := undef) (by kernel_rfl) (by kernel_rfl) (by kernel_rfl) (fun _ _ _ h => h) (Or.inr ⟨by rfl, rfl⟩) (by assumption) ?_; try simp only [Act.put, List.setIfInBounds_toArray, List.set_cons_zero, List.set_cons_succ])
                  (refine tk13 (v := undef) (by kernel_rfl) (by kernel_rfl) (by kernel_rfl) (fun _ _ _ h => h) (Or.inr ⟨by rfl, rfl⟩) (by assumption) ?_; try simp only [Act.put, List.setIfInBounds_toArray, List.set_cons_zero, List.set_cons_succ])
                  (refine tk14 (v := ?_) (by kernel_rfl) (by kernel_rfl) (by kernel_rfl) (fun _ _ _ h => h) (Or.inl ⟨by rfl, ?_⟩) (by assumption) ?_; rotate_left; (focus (intro w hSw; (try dsimp only at hSw); go_simp; (try first | (rw [dif_pos (by omega)]; simp only [Result.andThen_ok]) | rw [if_pos (by omega)]); (try with_reducible rfl); done)); try simp only [Act.put, List.setIfInBounds_toArray, List.set_cons_zero, List.set_cons_succ])
                  refine wpAnyH_done (by kernel_rfl) ?_ _
                  clear cU c1 c2 HL
                  go_wp2
                  go_roundw
                  case rel => exact ⟨ok, u + 1, rfl, by go_num, by omega, HD.out.1, HD.out.2, HN.out⟩
                  case measure => simp [intOf]; omega
              · have cR := HQ3.out.1.c t h5
                rw [HT.out] at cR
                have zR := HQ3.out.1.f t
                cases ok with
                | true =>
                  have HN : Hid (BR (wr.setCell ⟨w.heap.size, t, none⟩ (.bool true)) w.heap.size E.length (upd R' t true) ∧ Keeps (fun x => x = w.heap.size) w1 (wr.setCell ⟨w.heap.size, t, none⟩ (.bool true)) ∧ (∀ j, R j = true → upd R' t true j = true) ∧ (∃ k, k < E.length ∧ R k = false ∧ upd R' t true k = true)) := by
                    refine ⟨HQ3.out.1.set t h5, HQ3.out.2.1.setCell (p := ⟨w.heap.size, t, none⟩) rfl _, fun j hj => ?_, t, h5, ?_, upd_same _ _ _⟩
                    · by_cases ej : j = t
                      · subst ej; exact upd_same _ _ _
                      · rw [upd_other _ _ ej]; exact HA.out.1 j hj
                    · cases hRt : R t with
                      | false => rfl
                      | true => have := HA.out.1 t hRt; rw [HT.out] at this; cases this
                  go_wp2
                  go_roundw
                  case rel => exact ⟨true, t + 1, upd R' t true, rfl, by go_num, by omega, HN.out.1, HN.out.2.1, HN.out.2.2.1, fun _ => HN.out.2.2.2, fun e => by cases e⟩
                  case measure => simp [intOf]; omega
                | false =>
                  have HN : Hid ((ag = false → R' = R ∧ ∀ i, i < t + 1 → clAt E b R i)) := fun e => by
                    obtain ⟨q1, q2⟩ := HA.out.2.2 e
                    refine ⟨q1, fun i hi => ?_⟩
                    by_cases ei : i = t
                    · subst ei
                      intro hi2 hc
                      exfalso
                      have := HQ3.out.2.2.2 (hc.elim (fun h => .inl ((HF.out ()).symm.trans h)) (fun ⟨j, hj, a1, a2⟩ => .inr ⟨j, hj, by omega, by rw [q1]; exact a1, a2.trans (HF.out ())⟩))
                      cases this
                    · exact q2 i (by omega)
                  clear cR zR
                  go_wp2
                  go_roundw
                  case rel => exact ⟨ag, t + 1, R', rfl, by go_num, by omega, HQ3.out.1, HQ3.out.2.1, HA.out.1, HA.out.2.1, HN.out⟩
                  case measure => simp [intOf]; omega
        · have HM : Hid ((List.range E.length).countP (fun j => !R' j) + bitB (.bool ag) < (List.range E.length).countP (fun j => !R j) + bitB (.bool true)) := by
            show _ < _
            have hc := cnt_le HA.out.1 E.length
            cases ag with
            | true => have := hc.2 (HA.out.2.1 rfl); show _ + 1 < _ + 1; omega
            | false => have := hc.1; show _ + 0 < _ + 1; omega
          have HN : Hid (ag = false → ∀ i, clAt E b R' i) := fun e i => by
            obtain ⟨q1, q2⟩ := HA.out.2.2 e
            intro hi
            rw [q1]
            exact q2 i (by omega) hi
          go_wp2
          go_roundw
          case rel => exact ⟨ag, R', rfl, HQ2.out.1, HQ2.out.2, HN.out⟩
          case measure =>
            rw [HQ2.out.1.unr, HQ.out.1.unr]
            exact HM.out
    | false =>
      have HRR : Hid (∀ i, i < E.length → R i = true) := fun i hi => by
        have hx : E[i] ∈ es := HP.out.2.mem_iff.2 (List.getElem_mem hi)
        have hc := hcl rfl
        exact path_reach E R b (fun i hi => hc i hi) es b e HP.out.1 (fun x hx => HP.out.2.mem_iff.1 hx) (fun i hi e => hc i hi (.inl e)) _ hx i hi rfl
      have HD : Hid (dfS E = e - b) := by
        show _ = _
        have := path_sum es b e HP.out.1
        rw [← this]
        exact (perm_sum (HP.out.2.map _)).symm
      have HE : Hid (∀ x, evS x E + ifI (x = b) - ifI (x = e) = 0) := fun x => by
        have := path_even x es b e HP.out.1
        rw [← this]
        unfold evS
        rw [perm_sum (HP.out.2.map (evN x))]
      have HQ : Hid (BR wr w.heap.size E.length R ∧ Keeps (fun x => x = w.heap.size) w1 wr) := ⟨hbr, hk⟩
      clear hbr hk hcl HP
      go_wp2_with fail
      go_loopw [12, 13] (fun c d wq => ∃ (t : Nat) (y : Int), c = .int .u64 y ∧ d = .int .i64 t ∧ t ≤ E.length ∧ y = (b + dfS (E.take t)) % 18446744073709551616 ∧ BR wq w.heap.size E.length R ∧ Keeps (fun x => x = w.heap.size) w1 wq) (fun _ d _ => E.length - (intOf d).toNat)
      case atStart => exact ⟨0, b, rfl, rfl, by omega, by show b = (b + 0) % _; omega, HQ.out.1, HQ.out.2⟩
      case round =>
        obtain ⟨t, y, rfl, rfl, ht, hy, hbr, hk⟩ := hrel
        have HQ2 : Hid (BR wr w.heap.size E.length R ∧ Keeps (fun x => x = w.heap.size) w1 wr ∧ y = (b + dfS (E.take t)) % 18446744073709551616) := ⟨hbr, hk, hy⟩
        clear hbr hk hy HQ
        by_cases h5 : t < E.length
        · have t0 : (0 : Int) ≤ (t : Int) := Int.natCast_nonneg _
          have t1 : (t : Int) < (E.length : Int) := by omega
          have cR := HQ2.out.1.c t h5
          rw [HRR.out t h5] at cR
          obtain ⟨fb, fo, lb, lo, rfl, rfl, c1, c2, -, -⟩ := (H.out wr HQ2.out.2.1).at t h5
          have HT : Hid (dfS (E.take (t + 1)) = dfS (E.take t) + (E[t].2 - E[t].1)) := by
            show _ = _
            rw [List.take_succ_eq_append_getElem h5, dfS_app]
          generalize E[t] = p at *
          obtain ⟨p1, p2⟩ := p
          dsimp only at c1 c2 HT
          obtain ⟨y1, hy1⟩ : ∃ y1, IntKind.u64.wrap (y + p2) = y1 := ⟨_, rfl⟩
          obtain ⟨y2, hy2⟩ : ∃ y2, IntKind.u64.wrap (y1 - p1) = y2 := ⟨_, rfl⟩
          have HN : Hid (BR wr.drew w.heap.size E.length R ∧ Keeps (fun x => x = w.heap.size) w1 wr.drew ∧ y2 = (b + dfS (E.take (t + 1))) % 18446744073709551616) := by
            refine ⟨⟨HQ2.out.1.c, HQ2.out.1.f⟩, HQ2.out.2.1.drew, ?_⟩
            rw [HT.out]
            have := HQ2.out.2.2
            rw [IntKind.wrap_u64] at hy1 hy2
            omega
          clear HT
          go_wp2_with fail
          clear cR
          (refine wp_region_held_drew (S := (fun V => V.cell? ⟨lb, lo + t, none⟩ = some (.int .u64 p2) ∧ V.cell? ⟨fb, fo + t, none⟩ = some (.int .u64 p1))) (by kernel_rfl) ⟨c2, c1⟩ (fun hHeld => ?_); simp only [List.size_toArray, List.length_cons, List.length_nil, Nat.reduceAdd, Array.replicate_succ, Array.replicate_zero, List.push_toArray, List.append_toArray, List.nil_append, List.cons_append])
          (refine tk0 (v := ?_) (by kernel_rfl) (by kernel_rfl) (by kernel_rfl) (fun _ _ _ h => h) (Or.inl ⟨by rfl, ?_⟩) (by assumption) ?_; rotate_left; (focus (intro w hSw; (try dsimp only at hSw); go_simp; (try first | (rw [dif_pos (by omega)]; simp only [Result.andThen_ok]) | rw [if_pos (by omega)]); (try with_reducible rfl); done)); try simp only [Act.put, List.setIfInBounds_toArray, List.set_cons_zero, List.set_cons_succ])
          (refine tk1 (v := ?_) (by kernel_rfl) (by kernel_rfl) (by kernel_rfl) (fun _ _ _ h => h) (Or.inl ⟨by rfl, ?_⟩) (by assumption) ?_; rotate_left; (focus (intro w hSw; (try dsimp only at hSw); go_simp; (try first | (rw [dif_pos (by omega)]; simp only [Result.andThen_ok]) | rw [if_pos (by omega)]); (try with_reducible rfl); done)); try simp only [Act.put, List.setIfInBounds_toArray, List.set_cons_zero, List.set_cons_succ])
          (refine tk2 (v := ?_) (by kernel_rfl) (by kernel_rfl) (by kernel_rfl) (fun _ _ _ h => h) (Or.inl ⟨by rfl, ?_⟩) (by assumption) ?_; rotate_left; (focus (intro w hSw; (try dsimp only at hSw); go_simp; (try first | (rw [dif_pos (by omega)]; simp only [Result.andThen_ok]) | rw [if_pos (by omega)]); (try with_reducible rfl); done)); try simp only [Act.put, List.setIfInBounds_toArray, List.set_cons_zero, List.set_cons_succ])
          (refine tk3 (v := ?_) (by kernel_rfl) (by kernel_rfl) (by kernel_rfl) (fun _ _ _ h => h) (Or.inl ⟨by rfl, ?_⟩) (by assumption) ?_; rotate_left; (focus (intro w hSw; (try dsimp only at hSw); go_simp; (try first | (rw [dif_pos (by omega)]; simp only [Result.andThen_ok]) | rw [if_pos (by omega)]); (try with_reducible rfl); done)); try simp only [Act.put, List.setIfInBounds_toArray, List.set_cons_zero, List.set_cons_succ])
          (refine tk4 (v := ?_) (by kernel_rfl) (by kernel_rfl) (by kernel_rfl) (fun _ _ _ h => h) (Or.inl ⟨by rfl, ?_⟩) (by assumption) ?_; rotate_left; (focus (intro w hSw; (try dsimp only at hSw); go_simp; (try first | (rw [dif_pos (by omega)]; simp only [Result.andThen_ok]) | rw [if_pos (by omega)]); (try with_reducible rfl); done)); try simp only [Act.put, List.setIfInBounds_toArray, List.set_cons_zero, List.set_cons_succ])
          (refine tk5 (v := ?_) (by kernel_rfl) (by kernel_rfl) (by kernel_rfl) (fun _ _ _ h => h) (Or.inl ⟨by rfl, ?_⟩) (by assumption) ?_; rotate_left; (focus (intro w hSw; (try dsimp only at hSw); go_simp; (try first | (rw [dif_pos (by omega)]; simp only [Result.andThen_ok]) | rw [if_pos (by omega)]); (try with_reducible rfl); done)); try simp only [Act.put, List.setIfInBounds_toArray, List.set_cons_zero, List.set_cons_succ])
          (refine tk6 (v := ?_) (by kernel_rfl) (by kernel_rfl) (by kernel_rfl) (fun _ _ _ h => h) (Or.inl ⟨by rfl, ?_⟩) (by assumption) ?_; rotate_left; (focus (intro w hSw; (try dsimp only at hSw); go_simp; (try first | (rw [dif_pos (by omega)]; simp only [Result.andThen_ok]) | rw [if_pos (by omega)]); (try with_reducible rfl); done)); try simp only [Act.put, List.setIfInBounds_toArray, List.set_cons_zero, List.set_cons_succ])
          (refine tk7 (v := ?_) (by kernel_rfl) (by kernel_rfl) (by kernel_rfl) (fun _ _ _ h => h) (Or.inl ⟨by rfl, ?_⟩) (by assumption) ?_; rotate_left; (focus (intro w hSw; (try dsimp only at hSw); go_simp; (try first | (rw [dif_pos (by omega)]; simp only [Result.andThen_ok]) | rw [if_pos (by omega)]); (try with_reducible rfl); done)); try simp only [Act.put, List.setIfInBounds_toArray, List.set_cons_zero, List.set_cons_succ])
          (refine tk8 (v := ?_) (by kernel_rfl) (by kernel_rfl) (by kernel_rfl) (fun _ _ _ h => h) (Or.inl ⟨by rfl, ?_⟩) (by assumption) ?_; rotate_left; (focus (intro w hSw; (try dsimp only at hSw); go_simp; (try first | (rw [dif_pos (by omega)]; simp only [Result.andThen_ok]) | rw [if_pos (by omega)]); (try with_reducible rfl); done)); try simp only [Act.put, List.setIfInBounds_toArray, List.set_cons_zero, List.set_cons_succ])
          (refine tk9 (v := ?_) (by kernel_rfl) (by kernel_rfl) (by kernel_rfl) (fun _ _ _ h => h) (Or.inl ⟨by rfl, ?_⟩) (by assumption) ?_; rotate_left; (focus (intro w hSw; (try dsimp only at hSw); go_simp; (try first | (rw [dif_pos (by omega)]; simp only [Result.andThen_ok]) | rw [if_pos (by omega)]); (try with_reducible rfl); done)); try simp only [Act.put, List.setIfInBounds_toArray, List.set_cons_zero, List.set_cons_succ])
          (refine tk10 (v := ?_) (by kernel_rfl) (by kernel_rfl) (by kernel_rfl) (fun _ _ _ h => h) (Or.inl ⟨by rfl, ?_⟩) (by assumption) ?_; rotate_left; (focus (intro w hSw; (try dsimp only at hSw); go_simp; (try first | (rw [dif_pos (by omega)]; simp only [Result.andThen_ok]) | rw [if_pos (by omega)]); (try with_reducible rfl); done)); try simp only [Act.put, List.setIfInBounds_toArray, List.set_cons_zero, List.set_cons_succ])
          (refine tk11 (v := ?_) (by kernel_rfl) (by kernel_rfl) (by kernel_rfl) (fun _ _ _ h => h) (Or.inl ⟨by rfl, ?_⟩) (by assumption) ?_; rotate_left; (focus (intro w hSw; (try dsimp only at hSw); go_simp; (try first | (rw [dif_pos (by omega)]; simp only [Result.andThen_ok]) | rw [if_pos (by omega)]); (try with_reducible rfl); done)); try simp only [Act.put, List.setIfInBounds_toArray, List.set_cons_zero, List.set_cons_succ])
          refine wpAnyH_done (by kernel_rfl) ?_ _
          clear c1 c2 hy1 hy2
          go_wp2
          go_roundw
          case rel => exact ⟨t + 1, y2, rfl, by go_num, by omega, HN.out.2.2, HN.out.1, HN.out.2.1⟩
          case measure => simp [intOf]; omega
        · have hye : y = e := by
            rw [HQ2.out.2.2, List.take_of_length_le (by omega), HD.out]
            omega
          subst hye
          go_wp2_with fail
          go_loopw [14] (fun d wq => ∃ (t : Nat), d = .int .i64 t ∧ t ≤ E.length ∧ Keeps (fun x => x = w.heap.size) w1 wq) (fun d _ => E.length - (intOf d).toNat)
          case atStart => exact ⟨0, rfl, by omega, HQ2.out.2.1⟩
          case round =>
            obtain ⟨u, rfl, hu, hk⟩ := hrel
            have HQ3 : Hid (Keeps (fun x => x = w.heap.size) w1 wr) := hk
            clear hk
            by_cases h6 : u < E.length
            · have u0 : (0 : Int) ≤ (u : Int) := Int.natCast_nonneg _
              have u1 : (u : Int) < (E.length : Int) := by omega
              obtain ⟨fb, fo, lb, lo, rfl, rfl, c1, c2, -, -⟩ := (H.out wr HQ3.out).at u h6
              generalize E[u] = p at *
              obtain ⟨p1, p2⟩ := p
              dsimp only at c1 c2
              go_wp2_with fail
              refine (even_any wr C p1 b y _ _ _ _ E (H.out wr HQ3.out) (HE.out p1)).mono ?_
              rintro r w2 ⟨rfl, rfl⟩
              go_wp2_with fail
              refine (even_any w2 C p2 b y _ _ _ _ E (H.out w2 HQ3.out) (HE.out p2)).mono ?_
              rintro r w3 ⟨rfl, rfl⟩
              go_wp2
              go_roundw
              case rel => exact ⟨u + 1, by go_num, by omega, HQ3.out⟩
              case measure => simp [intOf]; omega
            · have HF : Hid (Below w.heap.size w wr) := (HK0.out.trans HQ3.out).below (Nat.le_refl _) (fun k hk e => by omega)
              go_wp2
              go_ret
              exact ⟨rfl, HF.out⟩
end Go.Proofs.YtegnmflbbpfdhaaGreat
