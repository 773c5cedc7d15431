import Derived.Test.YtegnmflbbpfdhaaGreatSrN
namespace Go.Proofs.YtegnmflbbpfdhaaGreat
set_option linter.unusedSimpArgs false
open Go.ChangeShapes Go.WideShapes Go.ChangeAt Go.RowKit Go.MuLone Go.RwLone
set_option linter.unusedVariables false
set_option maxRecDepth 100000
set_option maxHeartbeats 3200000
theorem InG.wd2 {w : World} {C : Nat} {a : Option Addr} {n c : Nat} {xs : List Int} (h : InG wdC w C (.slice a n c) xs) (i : Nat) (hi : i < xs.length) : ∃ b off, a = some ⟨b, off, none⟩ ∧ b < C ∧ w.cell? ⟨b, off + i, none⟩ = some (.int .u64 xs[i]) := by
  obtain ⟨b, off, e, hl, hc⟩ := InG.cell (cs := wdC) (n := 1) (fun _ => rfl) h i hi (by decide)
  have := hc 0 (by decide)
  rw [Nat.mul_one, Nat.add_zero] at this
  exact ⟨b, off, e, hl, this⟩
/-- Two lists that are the same. -/
theorem sameW (w : World) (C : Nat) (hC : C ≤ w.heap.size) (a1 : Option Addr) (c1 : Nat) (a2 : Option Addr) (c2 : Nat) (xs : List Int) (h1 : InG wdC w C (.slice a1 xs.length c1) xs) (h2 : InG wdC w C (.slice a2 xs.length c2) xs) (hn : xs.length ≤ 140737488355328) :
    Calls Tryz.prog 30 #[.slice a1 xs.length c1, .slice a2 xs.length c2] w fun e w' => e = .returned (.bool true) ∧ Keeps (fun _ => False) w w' := by
  have H : Hid (∀ W, Keeps (fun _ => False) w W → InG wdC W C (.slice a1 xs.length c1) xs ∧ InG wdC W C (.slice a2 xs.length c2) xs) := fun W k => ⟨h1.later (k.below hC (fun _ _ e => e)), h2.later (k.below hC (fun _ _ e => e))⟩
  clear h1 h2
  go_enter Tryz.func30, Tryz.ntmps30
  go_wp2_with fail
  go_loopw [5] (fun c wr => ∃ t : Nat, c = .int .i64 t ∧ t ≤ xs.length ∧ Keeps (fun _ => False) w wr) (fun c _ => xs.length - (intOf c).toNat)
  case atStart => exact ⟨0, rfl, by omega, Keeps.refl _ _⟩
  case round =>
    obtain ⟨t, rfl, ht, hk⟩ := hrel
    have HK : Hid (Keeps (fun _ => False) w wr) := hk
    clear hk
    by_cases h5 : t < xs.length
    · have t0 : (0 : Int) ≤ (t : Int) := Int.natCast_nonneg _
      have t1 : (t : Int) < (xs.length : Int) := by omega
      obtain ⟨b1, o1, rfl, -, q1⟩ := (H.out wr HK.out).1.wd2 t h5
      obtain ⟨b2, o2, rfl, -, q2⟩ := (H.out wr HK.out).2.wd2 t h5
      have HN : Hid (Keeps (fun _ => False) w wr.drew) := HK.out.drew
      generalize xs[t] = x at *
      go_wp2_with fail
      (refine wp_region_held_drew (S := (fun W => W.cell? ⟨b1, o1 + t, none⟩ = some (.int .u64 x) ∧ W.cell? ⟨b2, o2 + t, none⟩ = some (.int .u64 x))) (by kernel_rfl) ⟨q1, q2⟩ (fun hHeld => ?_); simp only [List.size_toArray, List.length_cons, List.length_nil, Nat.reduceAdd, Array.replicate_succ, Array.replicate_zero, List.push_toArray, List.append_toArray, List.nil_append, List.cons_append])
      refine rgT 0 (h := ?_)
      refine rgT 1 (h := ?_)
      refine rgT 2 (h := ?_)
      refine rgT 3 (h := ?_)
      refine rgT 4 (h := ?_)
      refine rgT 5 (h := ?_)
      refine rgT 6 (h := ?_)
      refine rgT 7 (h := ?_)
      refine rgT 8 (h := ?_)
      refine wpAnyH_done (by kernel_rfl) ?_ _
      clear q1 q2
      go_wp2
      go_roundw
      case rel => exact ⟨t + 1, by go_num, by omega, HN.out⟩
      case measure => simp [intOf]; omega
    · go_wp2
      go_ret
      exact ⟨rfl, HK.out⟩
/-- Two outcomes that are the same. -/
theorem sameO (w : World) (C : Nat) (hC : C ≤ w.heap.size) (a1 : Option Addr) (c1 : Nat) (a2 : Option Addr) (c2 : Nat) (xs : List Int) (a3 : Option Addr) (c3 : Nat) (a4 : Option Addr) (c4 : Nat) (ys : List Int) (h1 : InG wdC w C (.slice a1 xs.length c1) xs) (h2 : InG wdC w C (.slice a2 xs.length c2) xs) (hn : xs.length ≤ 140737488355328) (h3 : InG wdC w C (.slice a3 ys.length c3) ys) (h4 : InG wdC w C (.slice a4 ys.length c4) ys) (hm : ys.length ≤ 140737488355328) :
    Calls Tryz.prog 18 #[.agg #[.slice a1 xs.length c1, .slice a3 ys.length c3], .agg #[.slice a2 xs.length c2, .slice a4 ys.length c4]] w fun e w' => e = .returned (.bool true) ∧ Keeps (fun _ => False) w w' := by
  have k0 : Keeps (fun _ => False) w ((w.alloc (.cells #[.slice a1 xs.length c1, .slice a3 ys.length c3] 34)).alloc (.cells #[.slice a2 xs.length c2, .slice a4 ys.length c4] 34)) := ((Keeps.refl _ _).alloc _).alloc _
  have HK0 : Hid (Keeps (fun _ => False) w ((w.alloc (.cells #[.slice a1 xs.length c1, .slice a3 ys.length c3] 34)).alloc (.cells #[.slice a2 xs.length c2, .slice a4 ys.length c4] 34))) := k0
  have lt : ∀ {v : Value} {zs : List Int}, InG wdC w C v zs → ∀ W, Keeps (fun _ => False) w W → InG wdC W C v zs := fun h W k => h.later (k.below hC (fun _ _ e => e))
  have HX := sameW _ C (Nat.le_trans hC k0.size) a1 c1 a2 c2 xs (lt h1 _ k0) (lt h2 _ k0) hn
  have HXX : Hid (∀ _ : Unit, _) := fun _ => HX
  have HY : Hid (∀ W, Keeps (fun _ => False) w W → Calls Tryz.prog 30 #[.slice a3 ys.length c3, .slice a4 ys.length c4] W fun e w' => e = .returned (.bool true) ∧ Keeps (fun _ => False) W w') := fun W k => sameW W C (Nat.le_trans hC k.size) a3 c3 a4 c4 ys (lt h3 W k) (lt h4 W k) hm
  have HC : Hid (∀ W, Keeps (fun _ => False) ((w.alloc (.cells #[.slice a1 xs.length c1, .slice a3 ys.length c3] 34)).alloc (.cells #[.slice a2 xs.length c2, .slice a4 ys.length c4] 34)) W → W.cell? ⟨w.heap.size, 1, none⟩ = some (.slice a3 ys.length c3) ∧ W.cell? ⟨w.heap.size + 1, 1, none⟩ = some (.slice a4 ys.length c4)) := fun W k => by
    have s : ((w.alloc (.cells #[.slice a1 xs.length c1, .slice a3 ys.length c3] 34)).alloc (.cells #[.slice a2 xs.length c2, .slice a4 ys.length c4] 34)).heap.size = w.heap.size + 2 := by rw [szAl, szAl]
    have e1 : W.heap[w.heap.size]? = some (.cells #[.slice a1 xs.length c1, .slice a3 ys.length c3] 34) := (k.block _ (by omega) (fun e => e)).trans ((Below.heap_alloc _ _ _ (by rw [szAl]; omega)).trans (heap_alloc_last _ _ _ rfl))
    have e2 : W.heap[w.heap.size + 1]? = some (.cells #[.slice a2 xs.length c2, .slice a4 ys.length c4] 34) := (k.block _ (by omega) (fun e => e)).trans (heap_alloc_last _ _ _ (szAl _ _).symm)
    exact ⟨(cell?_heap e1 1).trans rfl, (cell?_heap e2 1).trans rfl⟩
  clear h1 h2 h3 h4 lt HX k0
  go_enter Tryz.func18, Tryz.ntmps18
  go_wp2_with fail
  refine (HXX.out ()).mono ?_
  rintro e w2 ⟨rfl, k2⟩
  obtain ⟨q1, q2⟩ := HC.out w2 k2
  have HK2 : Hid (Keeps (fun _ => False) w w2) := HK0.out.trans k2
  clear k2 HXX
  go_wp2_with fail
  refine (HY.out w2 HK2.out).mono ?_
  rintro e w3 ⟨rfl, k3⟩
  have HK3 : Hid (Keeps (fun _ => False) w w3) := HK2.out.trans k3
  clear k3 q1 q2
  go_wp2
  go_ret
  exact ⟨rfl, HK3.out⟩
theorem owW_set {w : World} {B g n c : Nat} {xs : List Int} (h : OwW w B (.slice (some ⟨g, 0, none⟩) n c) xs) (i : Nat) (hi : i < xs.length) (x : Int) : ∃ ys, ys.length = xs.length ∧ OwW (w.setCell ⟨g, i, none⟩ (.int .u64 x)) B (.slice (some ⟨g, 0, none⟩) n c) ys ∧ (∃ u, w.cell? ⟨g, i, none⟩ = some u) ∧ w.frozen? ⟨g, i, none⟩ = false := by
  have hnx := (owG_cap h).1
  subst hnx
  refine ⟨xs.set i x, by simp, ?_, ?_, World.ownsRow.frozenAt h i⟩
  · have h2 := (World.ownsRow.stored h i (.int .u64 x)).1
    have e : (xs.set i x).flatMap wdC = (xs.flatMap wdC).set i (.int .u64 x) := by
      rw [flat_wd, flat_wd, List.map_set]
    unfold OwW OwG
    rw [e, List.length_set]
    exact h2
  · exact ⟨_, (World.ownsRow.cellAt h i (by omega)).trans (by rw [flat_wd, List.getElem?_map, List.getElem?_eq_getElem hi]; rfl)⟩
/-- A list of words that is written full, and grown. -/
theorem worded_any (w : World) (v : Value) (m : Int) (xs : List Int) (h : OwW w 0 v xs) (hn : xs.length ≤ 1048576) :
    Calls Tryz.prog 19 #[v, .int .u64 m] w fun e w' => e = .returned (.tuple #[]) ∧ Keeps (fun x => v.ownBlock = some x) w w' := by
  obtain ⟨a, c, rfl⟩ := h.form
  obtain ⟨n, hnn⟩ : ∃ n, xs.length = n := ⟨_, rfl⟩
  have H : Hid (OwW w 0 (.slice a n c) xs ∧ xs.length = n) := ⟨by rw [← hnn]; exact h, hnn⟩
  rw [hnn]
  rw [hnn] at hn
  clear h hnn
  go_enter Tryz.func19, Tryz.ntmps19
  go_wp2_with fail
  go_loopw [4] (fun d wr => ∃ (t : Nat) (ys : List Int), d = .int .i64 t ∧ t ≤ n ∧ ys.length = n ∧ OwW wr 0 (.slice a n c) ys ∧ Keeps (fun x => (Value.slice a n c).ownBlock = some x) w wr) (fun d _ => n - (intOf d).toNat)
  case atStart => exact ⟨0, xs, rfl, by omega, H.out.2, H.out.1, Keeps.refl _ _⟩
  case round =>
    obtain ⟨t, ys, rfl, ht, hyl, how, hk⟩ := hrel
    have HQ : Hid (OwW wr 0 (.slice a n c) ys ∧ ys.length = n ∧ Keeps (fun x => (Value.slice a n c).ownBlock = some x) w wr) := ⟨how, hyl, hk⟩
    clear H hk
    by_cases h5 : t < n
    · have t0 : (0 : Int) ≤ (t : Int) := Int.natCast_nonneg _
      have t1 : (t : Int) < (n : Int) := by omega
      obtain ⟨g, cap, e, -, hgl⟩ := owG_some how (by intro e; rw [e] at hyl; simp at hyl; omega)
      injection e with e _ _
      subst e
      obtain ⟨y, hy⟩ : ∃ y, IntKind.u64.wrap (m + (t : Int)) = y := ⟨_, rfl⟩
      obtain ⟨zs, hz1, hz2, ⟨u, hu⟩, hf⟩ := owW_set how t (by omega) y
      have HN : Hid (OwW (wr.setCell ⟨g, t, none⟩ (.int .u64 y)) 0 (.slice (some ⟨g, 0, none⟩) n c) zs ∧ zs.length = n ∧ Keeps (fun x => (Value.slice (some ⟨g, 0, none⟩) n c).ownBlock = some x) w (wr.setCell ⟨g, t, none⟩ (.int .u64 y))) := ⟨hz2, by omega, HQ.out.2.2.setCell (p := ⟨g, t, none⟩) rfl _⟩
      clear how hyl hz1 hz2 hgl
      go_wp2
      go_roundw
      case rel => exact ⟨t + 1, zs, by go_num, by omega, HN.out.2.1, HN.out.1, HN.out.2.2⟩
      case measure => simp [intOf]; omega
    · clear how hyl
      go_wp2_with fail
      go_loopw [0, 5] (fun v d wr => ∃ (t : Nat) (v' : Value) (ys : List Int), v' = v ∧ d = .int .i64 t ∧ t ≤ 80 ∧ ys.length ≤ n + t ∧ OwW wr 0 v' ys ∧ Keeps (fun x => (Value.slice a n c).ownBlock = some x) w wr ∧ (∀ g, v'.ownBlock = some g → (Value.slice a n c).ownBlock = some g ∨ w.heap.size ≤ g)) (fun _ d _ => 80 - (intOf d).toNat)
      case atStart => exact ⟨0, _, ys, rfl, rfl, by omega, by have := HQ.out.2.1; omega, HQ.out.1, HQ.out.2.2, fun g hg => .inl hg⟩
      case round =>
        obtain ⟨u, v', zs, rfl, rfl, hu, hzl, how, hk, hob⟩ := hrel
        obtain ⟨va, vc, rfl⟩ := how.form
        have HQ2 : Hid (OwW wr 0 (.slice va zs.length vc) zs ∧ Keeps (fun x => (Value.slice a n c).ownBlock = some x) w wr ∧ (∀ g, (Value.slice va zs.length vc).ownBlock = some g → (Value.slice a n c).ownBlock = some g ∨ w.heap.size ≤ g)) := ⟨how, hk, hob⟩
        clear how hk hob HQ
        by_cases h6 : u < 80
        · have u0 : (0 : Int) ≤ (u : Int) := Int.natCast_nonneg _
          have u1 : (u : Int) < 80 := by omega
          go_wp2_with (at_builtin; refine hideG ?_)
          change wpList _ _ _ _ _ _
          refine app_lies (cs := wdC) (wr := wr) (by rfl) _ _ 24 22 (by rfl) Tryz.underlying24 infoU64 rfl (by decide) (fun _ => rfl) _ zs m HQ2.out.1 (by rfl) wr.heap.size rfl (by rfl) (wdC_one _) _ rfl (by unfold maxLen; omega) (by omega) ?_
          intro b k w3 ho3 hk3 hb3 hl3
          have HN : Hid (OwW w3 0 (.slice (some ⟨b, 0, none⟩) (zs.length + 1) k) (zs ++ [m]) ∧ Keeps (fun x => (Value.slice a n c).ownBlock = some x) w w3 ∧ (∀ g, (Value.slice (some ⟨b, 0, none⟩) (zs.length + 1) k).ownBlock = some g → (Value.slice a n c).ownBlock = some g ∨ w.heap.size ≤ g)) := by
            have hs := HQ2.out.2.1.size
            refine ⟨ho3, ?_, fun g hg => ?_⟩
            · exact ⟨hk3.os.trans HQ2.out.2.1.os, hk3.tape.trans HQ2.out.2.1.tape, hk3.output.trans HQ2.out.2.1.output, Nat.le_trans hs hk3.size, fun x hx hn => (hk3.block x (by omega) (fun e => (HQ2.out.2.2 x e).elim hn (fun e => by omega))).trans (HQ2.out.2.1.block x hx hn)⟩
            · obtain rfl : b = g := Option.some.inj hg
              rcases hb3 with e | e
              · exact HQ2.out.2.2 b e
              · right; omega
          have hln : (zs ++ [m]).length ≤ n + (u + 1) := by simp; omega
          clear ho3 hk3 hb3 hl3 HQ2
          generalize zs ++ [m] = us at *
          go_wp2
          go_roundw
          case rel => exact ⟨u + 1, _, us, rfl, by go_num, by omega, hln, HN.out⟩
          case measure => simp [intOf]; omega
        · go_wp2
          refine ⟨rfl, .tuple #[], by simp [results, Tryz.results19], rfl, ?_⟩
          exact HQ2.out.2.1
end Go.Proofs.YtegnmflbbpfdhaaGreat

namespace Go.Proofs.YtegnmflbbpfdhaaGreat
set_option linter.unusedSimpArgs false
open Go.ChangeShapes Go.WideShapes Go.ChangeAt Go.RowKit Go.MuLone Go.RwLone
set_option linter.unusedVariables false
set_option maxRecDepth 100000
set_option maxHeartbeats 3200000
def mkI (n : Int) : I8 := ⟨n, 0, 0, 0, 0, 0, 0, 0⟩
abbrev litL : Array Value := #[.int .i64 77, .int .i64 0, .int .i64 0, .int .i64 0, .int .u64 0, .int .i64 0, .int .u64 0, .int .i64 0, .int .i64 78, .int .i64 0, .int .i64 0, .int .i64 0, .int .u64 0, .int .i64 0, .int .u64 0, .int .i64 0]
/-- A list in sight behind a row of one's own: nothing but the row's own block is changed. -/
theorem app_keep_wp {α : Type} {cs : α → List Value} {w : World} {o : Oper} {a : Act} {K : Act → World → Prop} {Q : Exit → Act → World → Prop} (s x : Operand) (t e : TypeId)
    (ho : o.op = .call { callee := .builtin .append, args := #[s, x], argTypes := #[t, t] })
    {z : Value} {n bytes : Nat} (hu : Tryz.prog.underlying t = some (.slice e)) (hinfo : (Tryz.prog.info? e).map (fun i => (i.zero, i.size, i.bytes)) = some (some z, n, bytes)) (hzs : z.cells.size = n) (hn0 : 0 < n) (hn : ∀ y, (cs y).length = n)
    (B : Nat) (v : Value) (xs : List α) (hown : OwG cs e n w B v xs) (hs : a.eval s = v) (C : Nat) (v2 : Value) (ys : List α) (hx : a.eval x = v2) (hin : InG cs w C v2 ys) (h1 : ∀ y ∈ ys, ∀ u ∈ cs y, u.oneCell' = true)
    (hm : xs.length + ys.length ≤ maxLen) (hbytes : (xs.length + ys.length) * bytes ≤ 140737488355328) (hB : B ≤ w.heap.size)
    (h : ∀ v' w', OwG cs e n w' B v' (xs ++ ys) → Keeps (fun k => v.ownBlock = some k) w w' → K (a.put o.dst v') w') :
    o.wp Tryz.prog a w K Q := by
  obtain ⟨i0, hi, hz0, hz1, hz2⟩ := info_parts hinfo
  obtain ⟨ao, cap, rfl, hlc, hno, hc⟩ := hin
  match ao, hno, hc with
  | none, hno, hc =>
    have hc0 := hno rfl
    have hv : ys.length = 0 := by omega
    have hv' : ys = [] := List.eq_nil_of_length_eq_zero hv
    subst hv' hc0
    have hrun := run_append_owned_none (P := Tryz.prog) (w := w) B t o.type e i0 n hu hi v xs.length _ hown
    have hk := h v w (by rw [List.append_nil]; exact hown) (Keeps.refl _ _)
    unfold Oper.wp
    simp only [List.length_nil] at hx
    simp [execOp, ho, resolve, invoke, builtin, hs, hx, hrun, Result.andThen]
    exact hk
  | some ad, hno, hc =>
    refine wp_append_own _ s x t ho B e i0 z n bytes hu hi hz0 hz1 hz2 hzs hn0 v xs.length _ hs hown
      ad ys.length cap (ys.flatMap cs) hx (flat_len cs n hn ys) ?_ ?_ (by omega) hbytes hB ?_
    · intro j u hj
      obtain ⟨b, off, e1, _, e3⟩ := hc j u hj
      injection e1 with e1
      subst e1
      rw [addr_add]
      exact e3
    · intro u hu
      obtain ⟨y, hm', hy⟩ := List.mem_flatMap.1 hu
      exact h1 y hm' u hy
    · intro v' w' hown' hgrow _
      refine h v' w' ?_ ⟨hgrow.os, hgrow.tape, hgrow.output, hgrow.size, fun k hk hne => hgrow.block k hk (fun e => hne e.symm)⟩
      have : (xs ++ ys).length = xs.length + ys.length := by simp
      unfold OwG; rw [this, List.flatMap_append]; exact hown'
theorem owG_up {α : Type} {cs : α → List Value} {e : TypeId} {n : Nat} {w : World} {B C : Nat} {v : Value} {xs : List α} (h : OwG cs e n w B v xs) (hc : ∀ g, v.ownBlock = some g → C ≤ g) : OwG cs e n w C v xs := by
  refine ⟨h.1, ?_⟩
  rcases h.2 with h1 | ⟨g, cap, cur, rfl, h1, h2⟩
  · exact .inl h1
  · exact .inr ⟨g, cap, cur, rfl, hc g rfl, h2⟩
theorem InG.lit2 {w : World} {g C : Nat} (h : w.heap[g]? = some (.cells litL 31)) (hC : g < C) : InG iC w C (.slice (some ⟨g, 0, none⟩) 2 2) [mkI 77, mkI 78] := by
  refine ⟨some ⟨g, 0, none⟩, 2, rfl, Nat.le_refl _, (fun e => by cases e), fun j u hj => ⟨g, 0, rfl, hC, ?_⟩⟩
  rw [Nat.zero_add, cell?_heap h j]
  rw [← hj, show litL = ([mkI 77, mkI 78].flatMap iC).toArray from rfl, List.getElem?_toArray]
abbrev lnA (cv tvv avv : Value) : Array Value := #[.slice none 0 0, .slice none 0 0, cv, tvv, avv]
abbrev lnW (w : World) (c : Array Value) : World := ((lgW w c).alloc (.cells (lnA (.slice none 0 0) (.slice none 0 0) (.slice none 0 0)) 46)).alloc (.cells (lnA (.slice none 0 0) (.slice none 0 0) (.slice none 0 0)) 46)
theorem lnW_size (w : World) (c : Array Value) : (lnW w c).heap.size = w.heap.size + 3 := by rw [szAl, szAl, szAl]
/-- In the midst of lending. -/
structure Ln (w wr : World) (c : Array Value) (cv tvv avv : Value) (cs : List Int) (ps qa : List (Value × List I8)) : Prop where
  lb : wr.heap[w.heap.size + 2]? = some (.cells (lnA cv tvv avv) 46)
  oc : OwW wr (w.heap.size + 3) cv (cs ++ [771, 772])
  ot : OwG slP 32 1 wr (w.heap.size + 3) tvv ps
  oa : OwG slP 32 1 wr (w.heap.size + 3) avv qa
  oi : ∀ p ∈ ps, OwG iC 31 8 wr (w.heap.size + 3) p.1 p.2
  dj : ∀ g, tvv.ownBlock = some g → avv.ownBlock = some g → False
  inc : ps.Pairwise (fun a b => ∀ x y, a.1.ownBlock = some x → b.1.ownBlock = some y → x < y)
  bl : Below (w.heap.size + 2) (lnW w c) wr
theorem Ln.lt {w wr : World} {c : Array Value} {cv tvv avv : Value} {cs : List Int} {ps qa : List (Value × List I8)} (h : Ln w wr c cv tvv avv cs ps qa) : w.heap.size + 3 ≤ wr.heap.size := by
  have := (Array.getElem?_eq_some_iff.1 h.lb).1
  omega
/-- A thread more. -/
theorem Ln.step {w wr w8 w3 : World} {c : Array Value} {cv tvv v8 v' : Value} {cs : List Int} {ps : List (Value × List I8)} {l : List I8} (h : Ln w wr c cv tvv (.slice none 0 0) cs ps []) (h8 : OwG iC 31 8 w8 wr.heap.size v8 l) (b8 : Below wr.heap.size wr w8) (ho : OwG slP 32 1 w3 (w.heap.size + 3) v' (ps ++ [(v8, l)])) (hb : Below (w.heap.size + 3) w8 w3) (hk : KpT 32 w8 w3) :
    Ln w (w3.setCell ⟨w.heap.size + 2, 3, none⟩ v') c cv v' (.slice none 0 0) cs (ps ++ [(v8, l)]) [] ∧ w3.cell? ⟨w.heap.size + 2, 3, none⟩ = some tvv ∧ w3.frozen? ⟨w.heap.size + 2, 3, none⟩ = false := by
  have hs := h.lt
  have e3 : w3.heap[w.heap.size + 2]? = some (.cells (lnA cv tvv (.slice none 0 0)) 46) := (hb.block _ (by omega)).trans ((b8.block _ (by omega)).trans h.lb)
  have ks : Keeps (fun x => x = w.heap.size + 2) w3 (w3.setCell ⟨w.heap.size + 2, 3, none⟩ v') := Keeps.setCell (B := fun x => x = w.heap.size + 2) (Keeps.refl _ _) rfl _
  have hs8 := b8.size
  have hs3 := hb.size
  have ap : ∀ {α : Type} {f : α → List Value} {e : TypeId} {n : Nat} {v : Value} {xs : List α}, OwG f e n w3 (w.heap.size + 3) v xs → OwG f e n (w3.setCell ⟨w.heap.size + 2, 3, none⟩ v') (w.heap.size + 3) v xs := fun ho => ho.set (p := ⟨w.heap.size + 2, 3, none⟩) (by show w.heap.size + 2 < _; omega) _
  refine ⟨⟨heapSet e3 _, ap ((h.oc.later b8).kept hk (by decide)), ap ho, OwG.nil _ _ _ _ _, fun p hp => ?_, (fun g _ e => by cases e), ?_, ?_⟩, (cell?_heap e3 3).trans rfl, frozen?_heap e3 3⟩
  · rcases List.mem_append.1 hp with hp | hp
    · exact ap (((h.oi p hp).later b8).kept hk (by decide))
    · obtain rfl := List.mem_singleton.1 hp
      exact ap ((h8.kept hk (by decide)).down hs)
  · refine List.pairwise_append.2 ⟨h.inc, List.pairwise_singleton .., fun a ha b hb x y hx hy => ?_⟩
    obtain rfl := List.mem_singleton.1 hb
    have h1 := (World.ownsRow.lt (h.oi a ha) x hx).2
    have h2 := (World.ownsRow.lt h8 y hy).1
    omega
  · refine (h.bl.trans ((b8.mono (by omega)).trans (hb.mono (by omega)))).trans ?_
    exact ks.below (by omega) (fun k hk e => by omega)
/-- A list more, of all. -/
theorem Ln.more {w wr w3 : World} {c : Array Value} {cv tvv avv : Value} {b m cap : Nat} {cs : List Int} {ps qa qa' : List (Value × List I8)} (h : Ln w wr c cv tvv avv cs ps qa) (ho : OwG slP 32 1 w3 0 (.slice (some ⟨b, 0, none⟩) m cap) qa') (hk : Keeps (fun k => avv.ownBlock = some k) wr w3) (hb : avv.ownBlock = some b ∨ wr.heap.size ≤ b) :
    Ln w (w3.setCell ⟨w.heap.size + 2, 4, none⟩ (.slice (some ⟨b, 0, none⟩) m cap)) c cv tvv (.slice (some ⟨b, 0, none⟩) m cap) cs ps qa' ∧ w3.cell? ⟨w.heap.size + 2, 4, none⟩ = some avv ∧ w3.frozen? ⟨w.heap.size + 2, 4, none⟩ = false := by
  have hs := h.lt
  have na : ∀ g, avv.ownBlock = some g → w.heap.size + 3 ≤ g := fun g hg => (World.ownsRow.lt h.oa g hg).1
  have hs3 := hk.size
  have e3 : w3.heap[w.heap.size + 2]? = some (.cells (lnA cv tvv avv) 46) := (hk.block _ (by omega) (fun e => by have := na _ e; omega)).trans h.lb
  have ks : Keeps (fun x => x = w.heap.size + 2) w3 (w3.setCell ⟨w.heap.size + 2, 4, none⟩ (.slice (some ⟨b, 0, none⟩) m cap)) := Keeps.setCell (B := fun x => x = w.heap.size + 2) (Keeps.refl _ _) rfl _
  have hb3 : w.heap.size + 3 ≤ b := hb.elim (na b) (fun e => by omega)
  have ap : ∀ {α : Type} {f : α → List Value} {e : TypeId} {n : Nat} {v : Value} {xs : List α}, OwG f e n wr (w.heap.size + 3) v xs → (∀ g, v.ownBlock = some g → avv.ownBlock = some g → False) → OwG f e n (w3.setCell ⟨w.heap.size + 2, 4, none⟩ (.slice (some ⟨b, 0, none⟩) m cap)) (w.heap.size + 3) v xs := fun ho hd => (owK ho hk (fun g hg e => hd g hg e)).set (p := ⟨w.heap.size + 2, 4, none⟩) (by show w.heap.size + 2 < _; omega) _
  have ty : ∀ {α : Type} {f : α → List Value} {e : TypeId} {n : Nat} {v : Value} {xs : List α}, OwG f e n wr (w.heap.size + 3) v xs → e ≠ 32 → ∀ g, v.ownBlock = some g → avv.ownBlock = some g → False := fun ho hne g h1 h2 => by
    obtain ⟨c1, e1⟩ := blk ho h1
    obtain ⟨c2, e2⟩ := blk h.oa h2
    exact neT e1 e2 hne rfl
  refine ⟨⟨heapSet e3 _, ap h.oc (ty h.oc (by decide)), ap h.ot h.dj, ?_, fun p hp => ap (h.oi p hp) (ty (h.oi p hp) (by decide)), fun g h1 h2 => ?_, h.inc, ?_⟩, (cell?_heap e3 4).trans rfl, frozen?_heap e3 4⟩
  · refine (owG_up ho ?_).set (p := ⟨w.heap.size + 2, 4, none⟩) (by show w.heap.size + 2 < _; omega) _
    intro g hg
    obtain rfl : b = g := Option.some.inj hg
    exact hb3
  · obtain rfl : b = g := Option.some.inj h2
    rcases hb with e | e
    · exact h.dj b h1 e
    · have := (World.ownsRow.lt h.ot b h1).2
      omega
  · refine (h.bl.trans (hk.below (by omega) (fun k hk e => by have := na k e; omega))).trans (ks.below (by omega) (fun k hk e => by omega))
end Go.Proofs.YtegnmflbbpfdhaaGreat
