import Derived.Test.YtegnmflbbpfdhaaGreatSdX
namespace Go.Proofs.YtegnmflbbpfdhaaGreat
open Go.ChangeShapes Go.WideShapes Go.ChangeAt Go.RowKit Go.MuLone Go.RwLone
set_option linter.unusedVariables false
set_option maxRecDepth 100000
set_option maxHeartbeats 3200000
def slC (g : Nat) : List Value := [.slice (some ⟨g, 0, none⟩) 1 1]
theorem infoSl : (Tryz.prog.info? 32).map (fun i => (i.zero, i.size, i.bytes)) = some (some (.slice none 0 0), 1, 24) := by kernel_rfl
abbrev insA (x0 : Int) (j : Nat) : Array Value := #[.int .i64 3, .int .i64 1, .int .i64 2, .int .i64 (-1), .int .u64 (nw x0 j), .int .i64 (-1), .int .u64 x0, .int .i64 0]
/-- The law's own program, t of its threads made. -/
structure Fl (w wr : World) (x0 : Int) (t : Nat) (tv : Value) (ib : Nat → Nat) : Prop where
  cw : wr.heap[w.heap.size]? = some (.cells #[.int .u64 7, .int .u64 x0] 22)
  lb : wr.heap[w.heap.size + 1]? = some (.cells #[.slice (some ⟨w.heap.size, 0, none⟩) 2 2, tv] 27)
  ot : OwG slC 32 1 wr (w.heap.size + 2) tv ((List.range t).map ib)
  ins : ∀ j, j < t → wr.heap[ib j]? = some (.cells (insA x0 j) 31)
  lo : ∀ j, j < t → w.heap.size + 2 ≤ ib j
  bl : Below w.heap.size w wr
  sz : w.heap.size + 2 ≤ wr.heap.size
theorem Fl.start (w : World) (x0 : Int) (ib : Nat → Nat) : Fl w ((w.alloc (.cells #[.int .u64 7, .int .u64 x0] 22)).alloc (.cells #[.slice (some ⟨w.heap.size, 0, none⟩) 2 2, .slice none 0 0] 27)) x0 0 (.slice none 0 0) ib :=
  ⟨(Below.heap_alloc _ _ _ (by rw [szAl]; omega)).trans (heap_alloc_last _ _ _ rfl), heap_alloc_last _ _ _ (szAl _ _).symm, OwG.nil _ _ _ _ _, fun j hj => by omega, fun j hj => by omega, ((Below.refl _ _).alloc (Nat.le_refl _) _).alloc (by simp) _, by rw [szAl, szAl]; omega⟩
theorem Fl.step {w wr w3 : World} {x0 : Int} {t : Nat} {tv v' : Value} {ib : Nat → Nat} {ts : List Nat} (h : Fl w wr x0 t tv ib) (hb : Below (w.heap.size + 2) (wr.alloc (.cells (insA x0 t) 31)) w3) (hk : KpT 32 (wr.alloc (.cells (insA x0 t) 31)) w3) (ho : OwG slC 32 1 w3 (w.heap.size + 2) v' ts) (hts : ts = (List.range t).map ib ++ [wr.heap.size]) :
    Fl w (w3.setCell ⟨w.heap.size + 1, 1, none⟩ v') x0 (t + 1) v' (upd ib t wr.heap.size) ∧ w3.cell? ⟨w.heap.size + 1, 1, none⟩ = some tv ∧ w3.frozen? ⟨w.heap.size + 1, 1, none⟩ = false := by
  have hsz := h.sz
  have e : ∀ k, k < w.heap.size + 2 → w3.heap[k]? = wr.heap[k]? := fun k hk => (hb.block k hk).trans (Below.heap_alloc _ _ _ (by omega))
  have el := (e (w.heap.size + 1) (by omega)).trans h.lb
  refine ⟨⟨(Below.heap_setCell _ _ _ _ (by show w.heap.size ≠ w.heap.size + 1; omega)).trans ((e _ (by omega)).trans h.cw), by simp [World.setCell, Array.getElem?_modify, el], ?_, fun j hj => ?_, fun j hj => ?_, ?_, ?_⟩, (cell?_heap el 1).trans rfl, frozen?_heap el 1⟩
  · have : (List.range (t + 1)).map (upd ib t wr.heap.size) = ts := by
      rw [hts, List.range_succ, List.map_append]
      congr 1
      · apply List.map_congr_left
        intro j hj
        rw [upd_other _ _ (by have := List.mem_range.1 hj; omega)]
      · simp [upd_same]
    rw [this]
    exact ho.set (p := ⟨w.heap.size + 1, 1, none⟩) (by show w.heap.size + 1 < _; omega) _
  · by_cases e' : j = t
    · subst e'
      rw [upd_same, Below.heap_setCell _ _ _ _ (by show wr.heap.size ≠ w.heap.size + 1; omega)]
      have h2 := heap_alloc_last wr (.cells (insA x0 j) 31) _ rfl
      exact (hk _ _ _ _ h2 (by decide)).trans h2
    · rw [upd_other _ _ e', Below.heap_setCell _ _ _ _ (by have := h.lo j (by omega); show ib j ≠ w.heap.size + 1; omega)]
      have h1 := h.ins j (by omega)
      have h2 : (wr.alloc (.cells (insA x0 t) 31)).heap[ib j]? = _ := (Below.heap_alloc _ _ _ (Array.getElem?_eq_some_iff.1 h1).1).trans h1
      exact (hk _ _ _ _ h2 (by decide)).trans h2
  · by_cases e' : j = t
    · subst e'; rw [upd_same]; exact hsz
    · rw [upd_other _ _ e']; exact h.lo j (by omega)
  · exact h.bl.trans ⟨hb.os, hb.tape, hb.output, by have := hb.size; rw [szAl] at this; simp; omega, fun k hk => (Below.heap_setCell _ _ _ _ (by show k ≠ w.heap.size + 1; omega)).trans (e k (by omega))⟩
  · have := hb.size; rw [szAl] at this; simp; omega
theorem Fl.lit {w wr : World} {x0 : Int} {n : Nat} {tv : Value} {ib : Nat → Nat} (h : Fl w wr x0 n tv ib) (hn : 1 ≤ n) : ∃ tb tc, tv = .slice (some ⟨tb, 0, none⟩) n tc ∧ Lit2 wr x0 n w.heap.size tb ib (fun _ => 1) := by
  obtain ⟨tb, tc, e, _, lt⟩ := owG_some h.ot (by intro e; have := congrArg List.length e; simp at this; omega)
  have ho := h.ot
  rw [e] at ho
  rw [List.length_map, List.length_range] at e
  refine ⟨tb, tc, e, (cell?_heap h.cw 0).trans rfl, (cell?_heap h.cw 1).trans rfl, fun i hi => ?_, fun i hi => ?_, (Array.getElem?_eq_some_iff.1 h.cw).1, lt, fun _ _ => Nat.le_refl _⟩
  · rw [World.ownsRow.cellAt ho i (by simpa using hi)]
    have := flat_get slC 1 (fun _ => rfl) ((List.range n).map ib) i (by simpa using hi) 0 (by decide)
    rw [Nat.mul_one, Nat.add_zero] at this
    rw [this]
    simp [slC]
  · have e := h.ins i hi
    exact In8.of (x := sw x0 i) (k := 0) (fun j hj => by rw [Nat.zero_mul, Nat.zero_add, cell?_heap e j, show insA x0 i = (iC (sw x0 i)).toArray from rfl, List.getElem?_toArray]) (Array.getElem?_eq_some_iff.1 e).1
theorem flat_wd (l : List Int) (m : Nat) : (l.flatMap wdC)[m]? = (l[m]?).map (Value.int .u64) := by
  have : l.flatMap wdC = l.map (Value.int .u64) := by
    induction l with
    | nil => rfl
    | cons a l ih => rw [List.flatMap_cons, ih]; rfl
  rw [this, List.getElem?_map]
theorem wins_n (th : Int) (t1 : -9223372036854775808 ≤ th) (t2 : th < 9223372036854775808) : ∃ n : Nat, wrap64 (1 + wrap64 ((IntKind.u64.wrap th).tmod 4)) = (n : Int) ∧ 1 ≤ n ∧ n ≤ 4 := by
  have h0 : IntKind.u64.wrap th = th % 18446744073709551616 := by rw [IntKind.wrap_u64]
  have h1 : (IntKind.u64.wrap th).tmod 4 = (th % 18446744073709551616) % 4 := by rw [h0]; exact Int.tmod_eq_emod_of_nonneg (by omega)
  rw [h1]
  refine ⟨1 + ((th % 18446744073709551616) % 4).toNat, ?_, by omega, by omega⟩
  have e : ∀ y : Int, 0 ≤ y → y < 100 → wrap64 y = y := fun y a b => by unfold wrap64; omega
  rw [e (th % 18446744073709551616 % 4) (by omega) (by omega), e _ (by omega) (by omega)]
  omega
theorem firstWins_walk (x0 th : Int) (s : ByteArray) (w : World) (x1 : 0 ≤ x0) (x2 : x0 < 18446744073709551616) (t1 : -9223372036854775808 ≤ th) (t2 : th < 9223372036854775808) (hs : s.size ≤ 1048576) :
    Calls Tryz.prog 3 #[.int .u64 x0, .int .i64 th, .string s] w fun e w' => e = .returned (.bool true) ∧ Below w.heap.size w w' := by
  obtain ⟨n, hn, n1, n4⟩ := wins_n th t1 t2
  have HN : Hid (wrap64 (1 + wrap64 ((IntKind.u64.wrap th).tmod 4)) = (n : Int)) := hn
  have HF0 : Hid (∀ ib, Fl w ((w.alloc (.cells #[.int .u64 7, .int .u64 x0] 22)).alloc (.cells #[.slice (some ⟨w.heap.size, 0, none⟩) 2 2, .slice none 0 0] 27)) x0 0 (.slice none 0 0) ib) := fun ib => Fl.start w x0 ib
  clear hn
  go_enter Tryz.func3, Tryz.ntmps3
  go_wp2_with fail
  rw [HN.out]
  clear HN
  generalize (w.alloc (.cells #[.int .u64 7, .int .u64 x0] 22)).alloc (.cells #[.slice (some ⟨w.heap.size, 0, none⟩) 2 2, .slice none 0 0] 27) = w1 at *
  go_loopw [9] (fun c wr => ∃ (t : Nat) (ib : Nat → Nat) (tv : Value), c = .int .i64 t ∧ t ≤ n ∧ Fl w wr x0 t tv ib) (fun c _ => n - (intOf c).toNat)
  case atStart => exact ⟨0, fun _ => 0, _, rfl, by omega, HF0.out _⟩
  case round =>
    obtain ⟨t, ib, tv, rfl, ht, hfl⟩ := hrel
    have HQ : Hid (Fl w wr x0 t tv ib) := hfl
    clear hfl HF0
    by_cases h5 : t < n
    · have t0 : (0 : Int) ≤ (t : Int) := Int.natCast_nonneg _
      have t3 : (t : Int) < (n : Int) := by omega
      obtain ⟨ts, hts⟩ : ∃ ts, (List.range t).map ib = ts := ⟨_, rfl⟩
      have ot := HQ.out.ot
      rw [hts] at ot
      obtain ⟨va, vc, rfl⟩ := ot.form
      have hlen : ts.length ≤ 4 := by rw [← hts]; simp; omega
      have c1 : wr.cell? ⟨w.heap.size + 1, 1, none⟩ = some (.slice va ts.length vc) := (cell?_heap HQ.out.lb 1).trans rfl
      have HW : Hid (IntKind.u64.wrap (IntKind.u64.wrap (x0 + 1) + (t : Int)) = nw x0 t) := by
        show _ = _
        unfold nw
        rw [IntKind.wrap_u64, IntKind.wrap_u64]
        omega
      have HO : Hid (OwG slC 32 1 (wr.alloc (.cells (insA x0 t) 31)) (w.heap.size + 2) (.slice va ts.length vc) ts ∧ ts = (List.range t).map ib ∧ w.heap.size + 2 ≤ wr.heap.size) := ⟨World.ownsRow.alloc ot _, hts.symm, HQ.out.sz⟩
      clear ot hts
      go_wp2_with (at_builtin; refine hideG ?_)
      change wpList _ _ _ _ _ _
      rw [HW.out]
      clear HW c1
      refine app_one (cs := slC) (wr := wr.alloc (.cells (insA x0 t) 31)) (by rfl) _ _ 25 32 (by rfl) Tryz.underlying25 infoSl rfl (by decide) (fun _ => rfl) (w.heap.size + 2) _ ts wr.heap.size HO.out.1 (by rfl) (wr.heap.size + 1) (by simp) (by rfl) (by intro u hu; simp [slC] at hu; subst hu; rfl) _ rfl (by unfold maxLen; omega) (by omega) (by have := HO.out.2.2; simp; omega) ?_
      intro v' w3 ho3 hb3 hk3
      obtain ⟨f3, c3, z3⟩ := HQ.out.step hb3 hk3 ho3 (by rw [HO.out.2.1])
      obtain ⟨va', vc', rfl⟩ := ho3.form
      generalize (ts ++ [wr.heap.size]).length = mm at *
      have H3 : Hid (Fl w (w3.setCell ⟨w.heap.size + 1, 1, none⟩ (.slice va' mm vc')) x0 (t + 1) (.slice va' mm vc') (upd ib t wr.heap.size)) := f3
      clear f3 ho3 hb3 hk3 HO HQ
      go_wp2
      go_roundw
      case rel => exact ⟨t + 1, _, _, by go_num, by omega, H3.out⟩
      case measure => simp [intOf]; omega
    · have : t = n := by omega
      subst this
      obtain ⟨tb, tc, rfl, lit⟩ := HQ.out.lit n1
      have HL : Hid (Lit2 wr x0 t w.heap.size tb ib (fun _ => 1)) := lit
      have l0 : wr.cell? ⟨w.heap.size + 1, 0, none⟩ = some (.slice (some ⟨w.heap.size, 0, none⟩) 2 2) := (cell?_heap HQ.out.lb 0).trans rfl
      have l1 : wr.cell? ⟨w.heap.size + 1, 1, none⟩ = some (.slice (some ⟨tb, 0, none⟩) t tc) := (cell?_heap HQ.out.lb 1).trans rfl
      have HB : Hid (Below w.heap.size w wr) := HQ.out.bl
      clear lit HQ
      go_wp2_with fail
      refine (run_swaps wr x0 t w.heap.size tb tc ib (fun _ => 1) HL.out n1 n4 x1 x2 s hs).mono ?_
      rintro e w5 ⟨g, rv, rfl, en, hb5⟩
      obtain ⟨rg, g0, ⟨v, hv, g1, hrg⟩, ho⟩ := en
      obtain ⟨ra, rc, hrv, -, lr⟩ := owG_some ho (by intro e; have := congrArg List.length e; rw [regsL_len] at this; simp at this; omega)
      have hrl := regsL_len rg t
      rw [hrl] at hrv
      subst hrv
      have e6 : ∀ a j, a < w5.heap.size → (w5.alloc (.cells #[.slice (some ⟨g, 0, none⟩) 2 2, .slice (some ⟨ra, 0, none⟩) (4 * t) rc] 34)).cell? ⟨a, j, none⟩ = w5.cell? ⟨a, j, none⟩ := fun a j ha => World.cell?_of_block (w := w5) (Below.heap_alloc _ _ _ ha)
      have HR : Hid (∀ i, i < t → (w5.alloc (.cells #[.slice (some ⟨g, 0, none⟩) 2 2, .slice (some ⟨ra, 0, none⟩) (4 * t) rc] 34)).cell? ⟨ra, 4 * i + 2, none⟩ = some (.int .u64 (if i = v then 1 else 0))) := fun i hi => by
        rw [e6 ra _ lr]
        have ho' : OwG wdC 22 1 w5 0 (.slice (some ⟨ra, 0, none⟩) (regsL rg t).length rc) (regsL rg t) := by rw [hrl]; exact ho
        rw [World.ownsRow.cellAt ho' (4 * i + 2) (by omega)]
        rw [flat_wd, regsL_get rg t i hi, hrg i hi]
        rfl
      have p0 : (w5.alloc (.cells #[.slice (some ⟨g, 0, none⟩) 2 2, .slice (some ⟨ra, 0, none⟩) (4 * t) rc] 34)).cell? ⟨g, 0, none⟩ = some (.int .u64 7) := (e6 g 0 (cell_lt g0)).trans g0
      have p1 : (w5.alloc (.cells #[.slice (some ⟨g, 0, none⟩) 2 2, .slice (some ⟨ra, 0, none⟩) (4 * t) rc] 34)).cell? ⟨g, 1, none⟩ = some (.int .u64 (nw x0 v)) := (e6 g 1 (cell_lt g1)).trans g1
      have HE : Hid (Below w.heap.size w (w5.alloc (.cells #[.slice (some ⟨g, 0, none⟩) 2 2, .slice (some ⟨ra, 0, none⟩) (4 * t) rc] 34))) := (HB.out.trans (hb5.mono HB.out.size)).alloc (Nat.le_trans HB.out.size hb5.size) _
      have HZ : Hid (nw x0 v = nw x0 v) := rfl
      obtain ⟨z, hz⟩ : ∃ z, nw x0 v = z := ⟨_, rfl⟩
      rw [hz] at p1
      have HZ2 : Hid (nw x0 v = z) := hz
      have HV : Hid (v < t) := hv
      obtain ⟨q, hq⟩ : ∃ q, 4 * t = q := ⟨_, rfl⟩
      have hq1 : IntKind.i64.wrap (4 * (t : Int)) = (q : Int) := by rw [IntKind.wrap_i64]; omega
      have HQq : Hid (4 * t = q) := hq
      rw [hq] at HR p0 p1 HE ⊢
      have o0 : (w5.alloc (.cells #[.slice (some ⟨g, 0, none⟩) 2 2, .slice (some ⟨ra, 0, none⟩) q rc] 34)).cell? ⟨w5.heap.size, 0, none⟩ = some (.slice (some ⟨g, 0, none⟩) 2 2) := (cell?_heap (heap_alloc_last _ _ _ rfl) 0).trans rfl
      have o1 : (w5.alloc (.cells #[.slice (some ⟨g, 0, none⟩) 2 2, .slice (some ⟨ra, 0, none⟩) q rc] 34)).cell? ⟨w5.heap.size, 1, none⟩ = some (.slice (some ⟨ra, 0, none⟩) q rc) := (cell?_heap (heap_alloc_last _ _ _ rfl) 1).trans rfl
      clear hz hv hq e6 ho hrg g0 g1 hb5 HB lr hrl HZ l0 l1
      go_wp2_with fail
      generalize w5.alloc (.cells #[.slice (some ⟨g, 0, none⟩) 2 2, .slice (some ⟨ra, 0, none⟩) q rc] 34) = w6 at *
      go_loopw [12, 13] (fun c d wr => ∃ i : Nat, c = .int .i64 (if v < i then 1 else 0) ∧ d = .int .i64 i ∧ i ≤ t ∧ wr = w6) (fun _ d _ => t - (intOf d).toNat)
      case atStart => exact ⟨0, by simp, rfl, by omega, rfl⟩
      case round =>
        obtain ⟨i, rfl, rfl, hi, rfl⟩ := hrel
        by_cases h6 : i < t
        · have cR := HR.out i h6
          have i0 : (0 : Int) ≤ (i : Int) := Int.natCast_nonneg _
          have i1 : (i : Int) < (t : Int) := by omega
          have hqq := HQq.out
          obtain ⟨j, hj⟩ : ∃ j, 4 * i = j := ⟨_, rfl⟩
          obtain ⟨k, hk⟩ : ∃ k, j + 2 = k := ⟨_, rfl⟩
          have hj1 : IntKind.i64.wrap (4 * (i : Int)) = (j : Int) := by rw [IntKind.wrap_i64]; omega
          have hk1 : IntKind.i64.wrap ((j : Int) + 2) = (k : Int) := by rw [IntKind.wrap_i64]; omega
          have k0 : (0 : Int) ≤ (k : Int) := Int.natCast_nonneg _
          have k1 : (k : Int) < (q : Int) := by omega
          rw [hj, hk] at cR
          obtain ⟨y, hy⟩ : ∃ y, nw x0 i = y := ⟨_, rfl⟩
          have hyw : IntKind.u64.wrap (IntKind.u64.wrap (x0 + 1) + (i : Int)) = y := by
            rw [← hy]
            unfold nw
            rw [IntKind.wrap_u64, IntKind.wrap_u64]
            omega
          have hv := HV.out
          have hne : i ≠ v → ¬ z = y := fun e => by rw [← HZ2.out, ← hy]; unfold nw; omega
          have heq : i = v → y = z := fun e => by rw [← HZ2.out, ← hy, e]
          clear hy hj hk hqq
          by_cases hvi : i = v
          · have hyz := heq hvi
            rw [hyz] at hyw
            rw [if_pos hvi] at cR
            have hz0 : ¬ v < i := by omega
            rw [if_neg hz0]
            have HV1 : Hid (v < i + 1) := by show v < i + 1; omega
            clear hne heq hyz hvi hz0 hv
            go_wp2
            go_roundw
            case rel => exact ⟨i + 1, by rw [if_pos HV1.out], by go_num, by omega, trivial⟩
            case measure => simp [intOf]; omega
          · have hyz := hne hvi
            rw [if_neg hvi] at cR
            have HV1 : Hid ((if v < i + 1 then (1 : Int) else 0) = if v < i then 1 else 0) := by
              show _ = _
              by_cases e : v < i
              · rw [if_pos e, if_pos (by omega)]
              · rw [if_neg e, if_neg (by omega)]
            obtain ⟨u, hu⟩ : ∃ u : Int, (if v < i then (1 : Int) else 0) = u := ⟨_, rfl⟩
            have hu1 : IntKind.i64.wrap u = u := by
              rw [← hu, IntKind.wrap_i64]
              split <;> decide
            have HU : Hid ((if v < i + 1 then (1 : Int) else 0) = u) := by show _ = _; rw [HV1.out, hu]
            rw [hu]
            clear hne heq hvi hv hu HV1
            go_wp2
            go_roundw
            case rel => exact ⟨i + 1, by rw [HU.out], by go_num, by omega, trivial⟩
            case measure => simp [intOf]; omega
        · have : i = t := by omega
          subst this
          rw [if_pos HV.out]
          go_wp2
          go_ret
          exact ⟨rfl, HE.out⟩
end Go.Proofs.YtegnmflbbpfdhaaGreat
