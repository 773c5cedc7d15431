import Derived.Test.YtdpebhdjcgiboaaGreatKSi1
namespace Go.Proofs.YtdpebhdjcgiboaaGreat
open Go.ChangeShapes Go.WideShapes Go.ChangeAt Go.RowKit Go.MuLone Go.RwLone
set_option linter.unusedVariables false
set_option maxRecDepth 100000
set_option maxHeartbeats 3200000
def mkI (n : Int) : I8 := ⟨n, 0, 0, 0, 0, 0, 0, 0⟩
abbrev litL : Array Value := #[.int .i64 77, .int .i64 0, .int .i64 0, .int .i64 0, .int .u64 0, .int .i64 0, .int .u64 0, .int .i64 0, .int .i64 78, .int .i64 0, .int .i64 0, .int .i64 0, .int .u64 0, .int .i64 0, .int .u64 0, .int .i64 0]
/-- A list in sight behind a row of one's own: nothing but the row's own block is changed. -/
theorem app_keep_wp {α : Type} {cs : α → List Value} {w : World} {o : Oper} {a : Act} {K : Act → World → Prop} {Q : Exit → Act → World → Prop} (s x : Operand) (t e : TypeId)
    (ho : o.op = .call { callee := .builtin .append, args := #[s, x], argTypes := #[t, t] })
    {z : Value} {n bytes : Nat} (hu : Tryz.prog.underlying t = some (.slice e)) (hinfo : (Tryz.prog.info? e).map (fun i => (i.zero, i.size, i.bytes)) = some (some z, n, bytes)) (hzs : z.cells.size = n) (hn0 : 0 < n) (hn : ∀ y, (cs y).length = n)
    (B : Nat) (v : Value) (xs : List α) (hown : OwG cs e n w B v xs) (hs : a.eval s = v) (C : Nat) (v2 : Value) (ys : List α) (hx : a.eval x = v2) (hin : InG cs w C v2 ys) (h1 : ∀ y ∈ ys, ∀ u ∈ cs y, u.oneCell' = true)
    (hm : xs.length + ys.length ≤ maxLen) (hbytes : (xs.length + ys.length) * bytes ≤ 140737488355328) (hB : B ≤ w.heap.size)
    (h : ∀ v' w', OwG cs e n w' B v' (xs ++ ys) → Keeps (fun k => v.ownBlock = some k) w w' → K (a.put o.dst v') w') :
    o.wp Tryz.prog a w K Q := by
  obtain ⟨i0, hi, hz0, hz1, hz2⟩ := info_parts hinfo
  obtain ⟨ao, cap, rfl, hlc, hno, hc⟩ := hin
  match ao, hno, hc with
  | none, hno, hc =>
    have hc0 := hno rfl
    have hv : ys.length = 0 := by omega
    have hv' : ys = [] := List.eq_nil_of_length_eq_zero hv
    subst hv' hc0
    have hrun := run_append_owned_none (P := Tryz.prog) (w := w) B t o.type e i0 n hu hi v xs.length _ hown
    have hk := h v w (by rw [List.append_nil]; exact hown) (Keeps.refl _ _)
    unfold Oper.wp
    simp only [List.length_nil] at hx
    simp [execOp, ho, resolve, invoke, builtin, hs, hx, hrun, Result.andThen]
    exact hk
  | some ad, hno, hc =>
    refine wp_append_own _ s x t ho B e i0 z n bytes hu hi hz0 hz1 hz2 hzs hn0 v xs.length _ hs hown
      ad ys.length cap (ys.flatMap cs) hx (flat_len cs n hn ys) ?_ ?_ (by omega) hbytes hB ?_
    · intro j u hj
      obtain ⟨b, off, e1, _, e3⟩ := hc j u hj
      injection e1 with e1
      subst e1
      rw [addr_add]
      exact e3
    · intro u hu
      obtain ⟨y, hm', hy⟩ := List.mem_flatMap.1 hu
      exact h1 y hm' u hy
    · intro v' w' hown' hgrow _
      refine h v' w' ?_ ⟨hgrow.os, hgrow.tape, hgrow.output, hgrow.size, fun k hk hne => hgrow.block k hk (fun e => hne e.symm)⟩
      have : (xs ++ ys).length = xs.length + ys.length := by simp
      unfold OwG; rw [this, List.flatMap_append]; exact hown'
theorem owG_up {α : Type} {cs : α → List Value} {e : TypeId} {n : Nat} {w : World} {B C : Nat} {v : Value} {xs : List α} (h : OwG cs e n w B v xs) (hc : ∀ g, v.ownBlock = some g → C ≤ g) : OwG cs e n w C v xs := by
  refine ⟨h.1, ?_⟩
  rcases h.2 with h1 | ⟨g, cap, cur, rfl, h1, h2⟩
  · exact .inl h1
  · exact .inr ⟨g, cap, cur, rfl, hc g rfl, h2⟩
theorem InG.lit2 {w : World} {g C : Nat} (h : w.heap[g]? = some (.cells litL 106)) (hC : g < C) : InG iC w C (.slice (some ⟨g, 0, none⟩) 2 2) [mkI 77, mkI 78] := by
  refine ⟨some ⟨g, 0, none⟩, 2, rfl, Nat.le_refl _, (fun e => by cases e), fun j u hj => ⟨g, 0, rfl, hC, ?_⟩⟩
  rw [Nat.zero_add, cell?_heap h j]
  rw [← hj, show litL = ([mkI 77, mkI 78].flatMap iC).toArray from rfl, List.getElem?_toArray]
abbrev lnA (cv tvv avv : Value) : Array Value := #[.slice none 0 0, .slice none 0 0, cv, tvv, avv]
abbrev lnW (w : World) (c : Array Value) : World := ((lgW w c).alloc (.cells (lnA (.slice none 0 0) (.slice none 0 0) (.slice none 0 0)) 53)).alloc (.cells (lnA (.slice none 0 0) (.slice none 0 0) (.slice none 0 0)) 53)
theorem lnW_size (w : World) (c : Array Value) : (lnW w c).heap.size = w.heap.size + 3 := by rw [szAl, szAl, szAl]
/-- In the midst of lending. -/
structure Ln (w wr : World) (c : Array Value) (cv tvv avv : Value) (cs : List Int) (ps qa : List (Value × List I8)) : Prop where
  lb : wr.heap[w.heap.size + 2]? = some (.cells (lnA cv tvv avv) 53)
  oc : OwW wr (w.heap.size + 3) cv (cs ++ [771, 772])
  ot : OwG slP 102 1 wr (w.heap.size + 3) tvv ps
  oa : OwG slP 102 1 wr (w.heap.size + 3) avv qa
  oi : ∀ p ∈ ps, OwG iC 106 8 wr (w.heap.size + 3) p.1 p.2
  dj : ∀ g, tvv.ownBlock = some g → avv.ownBlock = some g → False
  inc : ps.Pairwise (fun a b => ∀ x y, a.1.ownBlock = some x → b.1.ownBlock = some y → x < y)
  bl : Below (w.heap.size + 2) (lnW w c) wr
theorem Ln.lt {w wr : World} {c : Array Value} {cv tvv avv : Value} {cs : List Int} {ps qa : List (Value × List I8)} (h : Ln w wr c cv tvv avv cs ps qa) : w.heap.size + 3 ≤ wr.heap.size := by
  have := (Array.getElem?_eq_some_iff.1 h.lb).1
  omega
/-- A thread more. -/
theorem Ln.step {w wr w8 w3 : World} {c : Array Value} {cv tvv v8 v' : Value} {cs : List Int} {ps : List (Value × List I8)} {l : List I8} (h : Ln w wr c cv tvv (.slice none 0 0) cs ps []) (h8 : OwG iC 106 8 w8 wr.heap.size v8 l) (b8 : Below wr.heap.size wr w8) (ho : OwG slP 102 1 w3 (w.heap.size + 3) v' (ps ++ [(v8, l)])) (hb : Below (w.heap.size + 3) w8 w3) (hk : KpT 102 w8 w3) :
    Ln w (w3.setCell ⟨w.heap.size + 2, 3, none⟩ v') c cv v' (.slice none 0 0) cs (ps ++ [(v8, l)]) [] ∧ w3.cell? ⟨w.heap.size + 2, 3, none⟩ = some tvv ∧ w3.frozen? ⟨w.heap.size + 2, 3, none⟩ = false := by
  have hs := h.lt
  have e3 : w3.heap[w.heap.size + 2]? = some (.cells (lnA cv tvv (.slice none 0 0)) 53) := (hb.block _ (by omega)).trans ((b8.block _ (by omega)).trans h.lb)
  have ks : Keeps (fun x => x = w.heap.size + 2) w3 (w3.setCell ⟨w.heap.size + 2, 3, none⟩ v') := Keeps.setCell (B := fun x => x = w.heap.size + 2) (Keeps.refl _ _) rfl _
  have hs8 := b8.size
  have hs3 := hb.size
  have ap : ∀ {α : Type} {f : α → List Value} {e : TypeId} {n : Nat} {v : Value} {xs : List α}, OwG f e n w3 (w.heap.size + 3) v xs → OwG f e n (w3.setCell ⟨w.heap.size + 2, 3, none⟩ v') (w.heap.size + 3) v xs := fun ho => ho.set (p := ⟨w.heap.size + 2, 3, none⟩) (by show w.heap.size + 2 < _; omega) _
  refine ⟨⟨heapSet e3 _, ap ((h.oc.later b8).kept hk (by decide)), ap ho, OwG.nil _ _ _ _ _, fun p hp => ?_, (fun g _ e => by cases e), ?_, ?_⟩, (cell?_heap e3 3).trans rfl, frozen?_heap e3 3⟩
  · rcases List.mem_append.1 hp with hp | hp
    · exact ap (((h.oi p hp).later b8).kept hk (by decide))
    · obtain rfl := List.mem_singleton.1 hp
      exact ap ((h8.kept hk (by decide)).down hs)
  · refine List.pairwise_append.2 ⟨h.inc, List.pairwise_singleton .., fun a ha b hb x y hx hy => ?_⟩
    obtain rfl := List.mem_singleton.1 hb
    have h1 := (World.ownsRow.lt (h.oi a ha) x hx).2
    have h2 := (World.ownsRow.lt h8 y hy).1
    omega
  · refine (h.bl.trans ((b8.mono (by omega)).trans (hb.mono (by omega)))).trans ?_
    exact ks.below (by omega) (fun k hk e => by omega)
/-- A list more, of all. -/
theorem Ln.more {w wr w3 : World} {c : Array Value} {cv tvv avv : Value} {b m cap : Nat} {cs : List Int} {ps qa qa' : List (Value × List I8)} (h : Ln w wr c cv tvv avv cs ps qa) (ho : OwG slP 102 1 w3 0 (.slice (some ⟨b, 0, none⟩) m cap) qa') (hk : Keeps (fun k => avv.ownBlock = some k) wr w3) (hb : avv.ownBlock = some b ∨ wr.heap.size ≤ b) :
    Ln w (w3.setCell ⟨w.heap.size + 2, 4, none⟩ (.slice (some ⟨b, 0, none⟩) m cap)) c cv tvv (.slice (some ⟨b, 0, none⟩) m cap) cs ps qa' ∧ w3.cell? ⟨w.heap.size + 2, 4, none⟩ = some avv ∧ w3.frozen? ⟨w.heap.size + 2, 4, none⟩ = false := by
  have hs := h.lt
  have na : ∀ g, avv.ownBlock = some g → w.heap.size + 3 ≤ g := fun g hg => (World.ownsRow.lt h.oa g hg).1
  have hs3 := hk.size
  have e3 : w3.heap[w.heap.size + 2]? = some (.cells (lnA cv tvv avv) 53) := (hk.block _ (by omega) (fun e => by have := na _ e; omega)).trans h.lb
  have ks : Keeps (fun x => x = w.heap.size + 2) w3 (w3.setCell ⟨w.heap.size + 2, 4, none⟩ (.slice (some ⟨b, 0, none⟩) m cap)) := Keeps.setCell (B := fun x => x = w.heap.size + 2) (Keeps.refl _ _) rfl _
  have hb3 : w.heap.size + 3 ≤ b := hb.elim (na b) (fun e => by omega)
  have ap : ∀ {α : Type} {f : α → List Value} {e : TypeId} {n : Nat} {v : Value} {xs : List α}, OwG f e n wr (w.heap.size + 3) v xs → (∀ g, v.ownBlock = some g → avv.ownBlock = some g → False) → OwG f e n (w3.setCell ⟨w.heap.size + 2, 4, none⟩ (.slice (some ⟨b, 0, none⟩) m cap)) (w.heap.size + 3) v xs := fun ho hd => (owK ho hk (fun g hg e => hd g hg e)).set (p := ⟨w.heap.size + 2, 4, none⟩) (by show w.heap.size + 2 < _; omega) _
  have ty : ∀ {α : Type} {f : α → List Value} {e : TypeId} {n : Nat} {v : Value} {xs : List α}, OwG f e n wr (w.heap.size + 3) v xs → e ≠ 102 → ∀ g, v.ownBlock = some g → avv.ownBlock = some g → False := fun ho hne g h1 h2 => by
    obtain ⟨c1, e1⟩ := blk ho h1
    obtain ⟨c2, e2⟩ := blk h.oa h2
    exact neT e1 e2 hne rfl
  refine ⟨⟨heapSet e3 _, ap h.oc (ty h.oc (by decide)), ap h.ot h.dj, ?_, fun p hp => ap (h.oi p hp) (ty (h.oi p hp) (by decide)), fun g h1 h2 => ?_, h.inc, ?_⟩, (cell?_heap e3 4).trans rfl, frozen?_heap e3 4⟩
  · refine (owG_up ho ?_).set (p := ⟨w.heap.size + 2, 4, none⟩) (by show w.heap.size + 2 < _; omega) _
    intro g hg
    obtain rfl : b = g := Option.some.inj hg
    exact hb3
  · obtain rfl : b = g := Option.some.inj h2
    rcases hb with e | e
    · exact h.dj b h1 e
    · have := (World.ownsRow.lt h.ot b h1).2
      omega
  · refine (h.bl.trans (hk.below (by omega) (fun k hk e => by have := na k e; omega))).trans (ks.below (by omega) (fun k hk e => by omega))
end Go.Proofs.YtdpebhdjcgiboaaGreat

namespace Go.Proofs.YtdpebhdjcgiboaaGreat
set_option linter.unusedSimpArgs false
open Go.ChangeShapes Go.WideShapes Go.ChangeAt Go.RowKit Go.MuLone Go.RwLone
set_option linter.unusedVariables false
set_option maxRecDepth 100000
set_option maxHeartbeats 6400000
theorem InG.litW {w : World} {g C : Nat} (h : w.heap[g]? = some (.cells #[.int .u64 771, .int .u64 772] 55)) (hC : g < C) : InG wdC w C (.slice (some ⟨g, 0, none⟩) 2 2) [771, 772] := by
  refine ⟨some ⟨g, 0, none⟩, 2, rfl, Nat.le_refl _, (fun e => by cases e), fun j u hj => ⟨g, 0, rfl, hC, ?_⟩⟩
  rw [Nat.zero_add, cell?_heap h j]
  rw [← hj, show (#[.int .u64 771, .int .u64 772] : Array Value) = ([(771 : Int), 772].flatMap wdC).toArray from rfl, List.getElem?_toArray]
def cutV (v : Value) : Value := match v with | .slice a n c => .slice a (n - 2) c | v => v
def cutP (p : Value × List I8) : Value × List I8 := (cutV p.1, p.2.take (p.2.length - 2))
/-- A program that was lent. -/
structure Lt (w : World) (B : Nat) (cs : List Int) (ts : List (List I8)) (gc gcap : Nat) (tvv : Value) (ab acap : Nat) (ps : List (Value × List I8)) (v79 : Value) : Prop where
  oc : OwW w B (.slice (some ⟨gc, 0, none⟩) (cs.length + 2) gcap) (cs ++ [771, 772])
  ot : OwG slP 102 1 w B tvv ps
  oa : OwG slP 102 1 w B (.slice (some ⟨ab, 0, none⟩) (ts.length + 1) acap) (ps.map cutP ++ [(v79, [mkI 79])])
  oi : ∀ p ∈ ps, OwG iC 106 8 w B p.1 p.2
  o9 : OwG iC 106 8 w B v79 [mkI 79]
  inc : ps.Pairwise (fun a b => ∀ x y, a.1.ownBlock = some x → b.1.ownBlock = some y → x < y)
  pl : ps.map Prod.snd = ts.map (fun l => l ++ [mkI 77, mkI 78])
  n9 : ∀ p ∈ ps, ∀ x y, p.1.ownBlock = some x → v79.ownBlock = some y → x < y
theorem slice_gen (w : World) (t : TypeId) (z : Nat) (ht : Tryz.prog.underlying t = some (.slice (Tryz.prog.elem t))) (hs : ((sizeOf (Tryz.prog.elem t)).run Tryz.prog w) = .ok z w) (a : Option Addr) (n c m : Nat) (h : m ≤ c) : (Instr.slice t (.slice a n c) none (some (.int .i64 (m : Int))) none).run Tryz.prog w = .ok (.slice a m c) w := by
  rw [run_slice_h w t a n c ht .i64 (m : Int) (by omega) (by omega), hs]
  simp [sliced, Result.andThen]
  intro _
  cases a with
  | none => rfl
  | some x =>
    show some (x.add 0) = some x
    unfold Addr.add
    rw [if_pos rfl]
theorem slice_to (w : World) (a : Option Addr) (n c m : Nat) (h : m ≤ c) : (Instr.slice 102 (.slice a n c) none (some (.int .i64 (m : Int))) none).run Tryz.prog w = .ok (.slice a m c) w := slice_gen w _ 8 (by kernel_rfl) (by kernel_rfl) a n c m h
theorem slice_toW (w : World) (a : Option Addr) (n c m : Nat) (h : m ≤ c) : (Instr.slice 46 (.slice a n c) none (some (.int .i64 (m : Int))) none).run Tryz.prog w = .ok (.slice a m c) w := slice_gen w _ 1 (by kernel_rfl) (by kernel_rfl) a n c m h
theorem slice_toR (w : World) (a : Option Addr) (n c m : Nat) (h : m ≤ c) : (Instr.slice 47 (.slice a n c) none (some (.int .i64 (m : Int))) none).run Tryz.prog w = .ok (.slice a m c) w := slice_gen w _ 1 (by kernel_rfl) (by kernel_rfl) a n c m h
theorem Ln.later {w wr w' : World} {c : Array Value} {cv tvv avv : Value} {cs : List Int} {ps qa : List (Value × List I8)} (h : Ln w wr c cv tvv avv cs ps qa) (k : Below wr.heap.size wr w') : Ln w w' c cv tvv avv cs ps qa := by
  have hs := h.lt
  exact ⟨(k.block _ (by omega)).trans h.lb, h.oc.later k, h.ot.later k, h.oa.later k, fun p hp => (h.oi p hp).later k, h.dj, h.inc, h.bl.trans (k.mono (by omega))⟩
abbrev i79 : Array Value := #[.int .i64 79, .int .i64 0, .int .i64 0, .int .i64 0, .int .u64 0, .int .i64 0, .int .u64 0, .int .i64 0]
theorem own79 (w : World) (B : Nat) (hB : B ≤ w.heap.size) : OwG iC 106 8 (w.alloc (.cells i79 106)) B (.slice (some ⟨w.heap.size, 0, none⟩) 1 1) [mkI 79] := by
  have := World.ownsRow_lit (base := B) (e := 106) (size := 8) w i79 1 hB (by unfold maxLen; omega) (by rfl)
  exact this
abbrev lnB (a b cv tvv avv : Value) : Array Value := #[a, b, cv, tvv, avv]
theorem lend_any (w : World) (C : Nat) (ca : Option Addr) (cc : Nat) (ta : Option Addr) (tc : Nat) (tv : Nat → Value) (cs : List Int) (ts : List (List I8)) (h : LitG w C ca cc ta tc tv cs ts) (hC : C ≤ w.heap.size) (l1 : cs.length ≤ 1099511627776) (l2 : ts.length ≤ 1099511627776) (l3 : ∀ i (hi : i < ts.length), ts[i].length ≤ 1099511627776) :
    Calls Tryz.prog 20 #[.agg (litC ca cs.length cc ta ts.length tc)] w fun e w' => ∃ gc gcap tvv ab acap ps v79, e = .returned (.agg #[.slice (some ⟨gc, 0, none⟩) cs.length gcap, .slice (some ⟨ab, 0, none⟩) ts.length acap, .slice (some ⟨gc, 0, none⟩) (cs.length + 2) gcap, tvv, .slice (some ⟨ab, 0, none⟩) (ts.length + 1) acap]) ∧ Lt w' (w.heap.size + 3) cs ts gc gcap tvv ab acap ps v79 ∧ Below w.heap.size w w' := by
  have k0 : Below w.heap.size w (lnW w (litC ca cs.length cc ta ts.length tc)) := (((Below.refl _ _).alloc (Nat.le_refl _) _).alloc (by rw [szAl]; omega) _).alloc (by rw [szAl, szAl]; omega) _
  have sz := lnW_size w (litC ca cs.length cc ta ts.length tc)
  have H : Hid (∀ W, Below (w.heap.size + 2) (lnW w (litC ca cs.length cc ta ts.length tc)) W → LitG W C ca cc ta tc tv cs ts) := fun W k => h.later ((k0.mono hC).trans (k.mono (by omega)))
  have HBox : Hid (∀ W, Below (w.heap.size + 2) (lnW w (litC ca cs.length cc ta ts.length tc)) W → W.cell? ⟨w.heap.size, 0, none⟩ = some (.slice ca cs.length cc) ∧ W.cell? ⟨w.heap.size, 1, none⟩ = some (.slice ta ts.length tc) ∧ W.heap[w.heap.size + 1]? = some (.cells (lnA (.slice none 0 0) (.slice none 0 0) (.slice none 0 0)) 53)) := fun W k => by
    have e0 : W.heap[w.heap.size]? = some (.cells (litC ca cs.length cc ta ts.length tc) 49) := (k.block _ (by omega)).trans ((Below.heap_alloc _ _ _ (by rw [szAl, szAl]; omega)).trans ((Below.heap_alloc _ _ _ (by rw [szAl]; omega)).trans (heap_alloc_last _ _ _ rfl)))
    exact ⟨(cell?_heap e0 0).trans rfl, (cell?_heap e0 1).trans rfl, (k.block _ (by omega)).trans ((Below.heap_alloc _ _ _ (by rw [szAl, szAl]; omega)).trans (heap_alloc_last _ _ _ (szAl _ _).symm))⟩
  have HC0 : Hid (InG wdC (lnW w (litC ca cs.length cc ta ts.length tc)) C (.slice ca cs.length cc) cs ∧ C ≤ (lnW w (litC ca cs.length cc ta ts.length tc)).heap.size) := ⟨(H.out _ (Below.refl _ _)).c, by omega⟩
  have HK0 : Hid (Below w.heap.size w (lnW w (litC ca cs.length cc ta ts.length tc)) ∧ (lnW w (litC ca cs.length cc ta ts.length tc)).heap[w.heap.size + 2]? = some (.cells (lnA (.slice none 0 0) (.slice none 0 0) (.slice none 0 0)) 53)) := ⟨k0, heap_alloc_last _ _ _ (by rw [szAl, szAl])⟩
  have HL3 : Hid (∀ i (hi : i < ts.length), ts[i].length ≤ 1099511627776) := l3
  clear h k0 l3
  go_enter Tryz.func20, Tryz.ntmps20
  go_wp2_with (at_builtin; refine hideG ?_)
  change wpList _ _ _ _ _ _
  refine copy_list (cs := wdC) (w := lnW w (litC ca cs.length cc ta ts.length tc)) (by rfl) _ _ 46 55 (by rfl) Tryz.underlying46 infoU64 rfl (by decide) (fun _ => rfl) (w.heap.size + 3) sz.symm (by rfl) C _ cs (by rfl) HC0.out.1 HC0.out.2 (fun y _ => wdC_one y) (by unfold maxLen; omega) (by omega) ?_
  intro v' w' ho hb
  rw [sz] at ho hb
  obtain ⟨va, vc, rfl⟩ := ho.form
  have s' := hb.size
  rw [sz] at s'
  have HA : Hid (OwW (w'.alloc (.cells #[.int .u64 771, .int .u64 772] 55)) (w.heap.size + 3) (.slice va cs.length vc) cs ∧ Below (w.heap.size + 3) (lnW w (litC ca cs.length cc ta ts.length tc)) (w'.alloc (.cells #[.int .u64 771, .int .u64 772] 55))) := ⟨World.ownsRow.alloc ho _, hb.alloc (by omega) _⟩
  have hwz : w.heap.size + 3 ≤ w'.heap.size := s'
  clear ho hb s' HC0
  go_wp2_with (at_builtin; refine hideG ?_)
  change wpList _ _ _ _ _ _
  refine app_more (cs := wdC) (w := w'.alloc (.cells #[.int .u64 771, .int .u64 772] 55)) (by rfl) _ _ 46 55 (by rfl) Tryz.underlying46 infoU64 rfl (by decide) (fun _ => rfl) (w.heap.size + 3) _ cs HA.out.1 (by rfl) (w'.heap.size + 1) _ [771, 772] (by rfl) (InG.litW (heap_alloc_last _ _ _ rfl) (by omega)) (fun y _ => wdC_one y) (by unfold maxLen; simp only [List.length_cons, List.length_nil]; omega) (by simp only [List.length_cons, List.length_nil]; omega) (by rw [szAl]; omega) ?_
  intro v2 w2 ho2 hb2 hk2
  obtain ⟨gc, gcap, hv2, -, -⟩ := owG_some ho2 (by simp)
  subst hv2
  have hbl : Below (w.heap.size + 3) (lnW w (litC ca cs.length cc ta ts.length tc)) w2 := HA.out.2.trans hb2
  have e2 : w2.heap[w.heap.size + 2]? = some (.cells (lnA (.slice none 0 0) (.slice none 0 0) (.slice none 0 0)) 53) := (hbl.block _ (by omega)).trans HK0.out.2
  have s2 := hbl.size
  rw [sz] at s2
  obtain ⟨nn, hnn⟩ : ∃ nn, (cs ++ [771, 772]).length = nn := ⟨_, rfl⟩
  rw [hnn] at ho2 ⊢
  have HNN : Hid ((cs ++ [771, 772]).length = nn) := hnn
  have c22 : w2.cell? ⟨w.heap.size + 2, 2, none⟩ = some (.slice none 0 0) := (cell?_heap e2 2).trans rfl
  have z22 := frozen?_heap e2 2
  have HS : Hid (Ln w (w2.setCell ⟨w.heap.size + 2, 2, none⟩ (.slice (some ⟨gc, 0, none⟩) nn gcap)) (litC ca cs.length cc ta ts.length tc) (.slice (some ⟨gc, 0, none⟩) nn gcap) (.slice none 0 0) (.slice none 0 0) cs [] []) := by
    refine ⟨heapSet e2 _, ho2.set (p := ⟨w.heap.size + 2, 2, none⟩) (by show w.heap.size + 2 < _; omega) _, OwG.nil _ _ _ _ _, OwG.nil _ _ _ _ _, (fun p hp => by cases hp), (fun g e => by cases e), List.Pairwise.nil, ?_⟩
    exact (hbl.mono (by omega)).trans (Keeps.below (B := fun x => x = w.heap.size + 2) (Keeps.setCell (B := fun x => x = w.heap.size + 2) (Keeps.refl _ _) rfl _) (by omega) (fun k hk e => by omega))
  clear ho2 hb2 hk2 hbl e2 s2 HA hwz hnn
  go_wp2_with fail
  clear c22 z22
  generalize w2.setCell ⟨w.heap.size + 2, 2, none⟩ (.slice (some ⟨gc, 0, none⟩) nn gcap) = w1 at *
  go_loopw [4] (fun c wr => ∃ (t : Nat) (tvv : Value) (ps : List (Value × List I8)), c = .int .i64 t ∧ t ≤ ts.length ∧ ps.map Prod.snd = (ts.take t).map (fun l => l ++ [mkI 77, mkI 78]) ∧ Ln w wr (litC ca cs.length cc ta ts.length tc) (.slice (some ⟨gc, 0, none⟩) nn gcap) tvv (.slice none 0 0) cs ps []) (fun c _ => ts.length - (intOf c).toNat)
  case atStart => exact ⟨0, _, [], rfl, by omega, rfl, HS.out⟩
  case round =>
    obtain ⟨t, tvv, ps, rfl, ht, hps, hcp⟩ := hrel
    have HQ : Hid (Ln w wr (litC ca cs.length cc ta ts.length tc) (.slice (some ⟨gc, 0, none⟩) nn gcap) tvv (.slice none 0 0) cs ps [] ∧ ps.map Prod.snd = (ts.take t).map (fun l => l ++ [mkI 77, mkI 78])) := ⟨hcp, hps⟩
    have HPL : Hid (ps.length = t) := by show _ = _; have := congrArg List.length hps; simpa [Nat.min_eq_left ht] using this
    have hpl : ps.length ≤ 1099511627776 := by have := HPL.out; omega
    clear hcp hps HS
    obtain ⟨c0, c1, -⟩ := HBox.out wr HQ.out.1.bl
    by_cases h5 : t < ts.length
    · have t0 : (0 : Int) ≤ (t : Int) := Int.natCast_nonneg _
      have t1 : (t : Int) < (ts.length : Int) := by omega
      have lg := H.out wr HQ.out.1.bl
      obtain ⟨tb, off, rfl, htb, ct⟩ := lg.t t h5
      have hin := lg.i t h5
      obtain ⟨ia, icap, hiv⟩ := hin.form
      rw [hiv] at ct hin
      have hli := HL3.out t h5
      have HT : Hid (ts.take (t + 1) = ts.take t ++ [ts[t]]) := by show _ = _; rw [List.take_succ_eq_append_getElem h5]
      generalize ts[t] = l at *
      obtain ⟨va2, vc2, rfl⟩ := HQ.out.1.ot.form
      have hsz : w.heap.size + 3 ≤ wr.heap.size := HQ.out.1.lt
      have HI : Hid (∀ W, Below wr.heap.size wr W → InG iC W C (.slice ia l.length icap) l) := fun W k => hin.later (k.mono (by omega))
      have HCT : Hid (∀ W : World, Below wr.heap.size wr W → W.cell? ⟨w.heap.size + 2, 3, none⟩ = some (.slice va2 ps.length vc2)) := fun W k => (k.cell (p := ⟨w.heap.size + 2, 3, none⟩) (by show w.heap.size + 2 < _; omega)).trans ((cell?_heap HQ.out.1.lb 3).trans rfl)
      have HSS : Hid (∀ W : World, Below wr.heap.size wr W → W.cell? ⟨w.heap.size, 1, none⟩ = some (.slice (some ⟨tb, off, none⟩) ts.length tc) ∧ W.cell? ⟨tb, off + t, none⟩ = some (.slice ia l.length icap)) := fun W k => ⟨(k.cell (p := ⟨w.heap.size, 1, none⟩) (by show w.heap.size < _; omega)).trans c1, (k.cell (p := ⟨tb, off + t, none⟩) (by show tb < _; omega)).trans ct⟩
      have hd0 : Below wr.heap.size wr wr.drew := (Below.refl _ _).drew
      have hdE : Below wr.heap.size wr (wr.drew.alloc (.cells #[] 106)) := hd0.alloc (Nat.le_refl _) _
      have hdL : Below wr.heap.size wr (wr.drew.alloc (.cells litL 106)) := hd0.alloc (Nat.le_refl _) _
      have HD : Hid (Below wr.heap.size wr wr.drew ∧ Below wr.heap.size wr (wr.drew.alloc (.cells #[] 106)) ∧ Below wr.heap.size wr (wr.drew.alloc (.cells litL 106)) ∧ Below wr.heap.size wr ((wr.drew.alloc (.cells #[] 106)).alloc (.cells litL 106)) ∧ Below wr.heap.size wr ((wr.drew.alloc (.cells litL 106)).alloc (.cells #[] 106))) := ⟨hd0, hdE, hdL, hdE.alloc hdE.size _, hdL.alloc hdL.size _⟩
      have sE : (wr.drew.alloc (.cells #[] 106)).heap.size = wr.heap.size + 1 := szAl _ _
      have sL : (wr.drew.alloc (.cells litL 106)).heap.size = wr.heap.size + 1 := szAl _ _
      have OW : Hid (OwG iC 106 8 (wr.drew.alloc (.cells #[] 106)) wr.heap.size (.slice (some ⟨wr.heap.size, 0, none⟩) 0 0) [] ∧ OwG iC 106 8 ((wr.drew.alloc (.cells #[] 106)).alloc (.cells litL 106)) wr.heap.size (.slice (some ⟨wr.heap.size, 0, none⟩) 0 0) [] ∧ OwG iC 106 8 ((wr.drew.alloc (.cells litL 106)).alloc (.cells #[] 106)) wr.heap.size (.slice (some ⟨wr.heap.size + 1, 0, none⟩) 0 0) []) := by
        have o1 : OwG iC 106 8 (wr.drew.alloc (.cells #[] 106)) wr.heap.size (.slice (some ⟨wr.heap.size, 0, none⟩) 0 0) [] := OwG.made iC 106 8 wr.drew wr.heap.size (Nat.le_refl _)
        have o3 := OwG.made iC 106 8 (wr.drew.alloc (.cells litL 106)) wr.heap.size (by omega)
        rw [sL] at o3
        exact ⟨o1, World.ownsRow.alloc o1 _, o3⟩
      have LB : Hid (((wr.drew.alloc (.cells #[] 106)).alloc (.cells litL 106)).heap[wr.heap.size + 1]? = some (.cells litL 106) ∧ ((wr.drew.alloc (.cells litL 106)).alloc (.cells #[] 106)).heap[wr.heap.size]? = some (.cells litL 106)) := ⟨heap_alloc_last _ _ _ sE.symm, (Below.heap_alloc _ _ _ (by omega)).trans (heap_alloc_last _ _ _ rfl)⟩
      have cT0 := HCT.out wr.drew hd0
      have gE : Below wr.heap.size wr (wr.alloc (.cells #[] 106)) := (Below.refl _ _).alloc (Nat.le_refl _) _
      have gL : Below wr.heap.size wr (wr.alloc (.cells litL 106)) := (Below.refl _ _).alloc (Nat.le_refl _) _
      have cTE : (wr.alloc (.cells #[] 106)).cell? ⟨w.heap.size + 2, 3, none⟩ = some (.slice va2 ps.length vc2) := HCT.out _ gE
      have cTL : (wr.alloc (.cells litL 106)).cell? ⟨w.heap.size + 2, 3, none⟩ = some (.slice va2 ps.length vc2) := HCT.out _ gL
      have cTEL : ((wr.alloc (.cells #[] 106)).alloc (.cells litL 106)).cell? ⟨w.heap.size + 2, 3, none⟩ = some (.slice va2 ps.length vc2) := HCT.out _ (gE.alloc gE.size _)
      have cTLE : ((wr.alloc (.cells litL 106)).alloc (.cells #[] 106)).cell? ⟨w.heap.size + 2, 3, none⟩ = some (.slice va2 ps.length vc2) := HCT.out _ (gL.alloc gL.size _)
      clear hin hiv lg hd0 hdE hdL gE gL c0 sE sL
      go_wp2_with fail
      (refine wp_region_held_drew (S := (fun W => W.cell? ⟨w.heap.size, 1, none⟩ = some (.slice (some ⟨tb, off, none⟩) ts.length tc) ∧ W.cell? ⟨tb, off + t, none⟩ = some (.slice ia l.length icap))) (by kernel_rfl) (HSS.out _ HD.out.1) (fun hHeld => ?_); simp only [List.size_toArray, List.length_cons, List.length_nil, Nat.reduceAdd, Array.replicate_succ, Array.replicate_zero, List.push_toArray, List.append_toArray, List.nil_append, List.cons_append])
      clear c1 ct
      refine rgT 0 (h := ?_)
      refine rgT 3 (h := ?_)
      refine rgT 4 (h := ?_)
      refine rgT 5 (h := ?_)
      refine rgT 6 (h := ?_)
      refine rgT 7 (h := ?_)
      refine rgT 9 (h := ?_)
      refine rgT 10 (h := ?_)
      (refine wpAnyH_ready (rs := [1, 2, 11]) (by kernel_rfl) (by simp) ?_; refine rgA 1 (by rfl) (fun K hK => ?_) (rgA 2 (by rfl) (fun K hK => ?_) (rgA 11 (by rfl) (fun K hK => ?_) AllReadyH.nil)) <;> rw [if_pos (by rfl)])
      focus
        go_simp
        (refine hK.out _ _ (HSS.out _ HD.out.1) (fun hHeld => ?_); clear hK K; try simp only [Act.put, List.setIfInBounds_toArray, List.set_cons_zero, List.set_cons_succ])
        (refine wpAnyH_ready (rs := [2, 11]) (by kernel_rfl) (by simp) ?_; refine rgA 2 (by rfl) (fun K hK => ?_) (rgA 11 (by rfl) (fun K hK => ?_) AllReadyH.nil) <;> rw [if_pos (by rfl)])
        focus
          go_simp
          (refine hK.out _ _ (HSS.out _ HD.out.2.1) (fun hHeld => ?_); clear hK K; try simp only [Act.put, List.setIfInBounds_toArray, List.set_cons_zero, List.set_cons_succ])
          (refine wpAnyH_ready (rs := [8, 11]) (by kernel_rfl) (by simp) ?_; refine rgA 8 (by rfl) (fun K hK => ?_) (rgA 11 (by rfl) (fun K hK => ?_) AllReadyH.nil) <;> rw [if_pos (by rfl)])
          focus
            refine app_keep_wp (cs := iC) (w := (wr.drew.alloc (.cells #[] 106))) (.tmp 23) (.tmp 28) 102 106 (by rfl) Tryz.underlying102 infoIn rfl (by decide) (fun _ => rfl) wr.heap.size _ [] OW.out.1 (by rfl) C _ l (by rfl) (HI.out _ HD.out.2.1) (fun y _ => iC_one y) (by unfold maxLen; simp only [List.length_nil]; omega) (by simp only [List.length_nil]; omega) ((HD.out.2.1).size) ?_
            intro v8 w8 o8 k8
            rw [List.nil_append] at o8
            obtain ⟨a8, c8, rfl⟩ := o8.form
            have B8 : Below wr.heap.size wr w8 := (HD.out.2.1).trans (k8.below ((HD.out.2.1).size) (fun k hk e => by have e2 : wr.heap.size = k := Option.some.inj e; omega))
            have H8 : Hid (OwG iC 106 8 w8 wr.heap.size (.slice a8 l.length c8) l ∧ Below wr.heap.size wr w8) := ⟨o8, B8⟩
            have cT8 := HCT.out w8 B8
            have cT8L := HCT.out (w8.alloc (.cells litL 106)) (B8.alloc B8.size _)
            clear o8 k8 B8
            (refine hK.out _ _ (HSS.out _ H8.out.2) (fun hHeld => ?_); clear hK K; try simp only [Act.put, List.setIfInBounds_toArray, List.set_cons_zero, List.set_cons_succ])
            (refine rgS 11 (h := fun K hK => ?_); go_simp)
            (refine hK.out _ _ (HSS.out _ (H8.out.2.alloc H8.out.2.size _)) (fun hHeld => ?_); clear hK K; try simp only [Act.put, List.setIfInBounds_toArray, List.set_cons_zero, List.set_cons_succ])
            (refine rgS 12 (h := fun K hK => ?_); rw [if_pos (by rfl)])
            refine app_keep_wp (cs := iC) (w := (w8.alloc (.cells litL 106))) (.tmp 29) (.tmp 32) 102 106 (by rfl) Tryz.underlying102 infoIn rfl (by decide) (fun _ => rfl) wr.heap.size _ l (World.ownsRow.alloc H8.out.1 _) (by rfl) ((w8.alloc (.cells litL 106)).heap.size) _ [mkI 77, mkI 78] (by rfl) (InG.lit2 (heap_alloc_last _ _ _ rfl) (by rw [szAl]; omega)) (fun y _ => iC_one y) (by unfold maxLen; simp only [List.length_cons, List.length_nil]; omega) (by simp only [List.length_cons, List.length_nil]; omega) (((H8.out.2.alloc H8.out.2.size _)).size) ?_
            intro v12 w12 o12 k12
            obtain ⟨a12, c12, rfl⟩ := o12.form
            generalize hml : (l ++ [mkI 77, mkI 78]).length = ml at *
            clear hml
            have B12 : Below wr.heap.size wr w12 := ((H8.out.2.alloc H8.out.2.size _)).trans (k12.below (((H8.out.2.alloc H8.out.2.size _)).size) (fun k hk e => by have := (World.ownsRow.lt H8.out.1 k e).1; omega))
            have H12 : Hid (OwG iC 106 8 w12 wr.heap.size (.slice a12 ml c12) (l ++ [mkI 77, mkI 78]) ∧ Below wr.heap.size wr w12) := ⟨o12, B12⟩
            have cT12 := HCT.out w12 B12
            have cT13 := HCT.out (w12.alloc (.cells #[.slice a12 ml c12] 102)) (B12.alloc B12.size _)
            clear o12 k12 B12 cT8 cT8L H8
            (refine hK.out _ _ (HSS.out _ H12.out.2) (fun hHeld => ?_); clear hK K; try simp only [Act.put, List.setIfInBounds_toArray, List.set_cons_zero, List.set_cons_succ])
            (refine rgS 13 (h := fun K hK => ?_); go_simp)
            (refine hK.out _ _ (HSS.out _ (H12.out.2.alloc H12.out.2.size _)) (fun hHeld => ?_); clear hK K; try simp only [Act.put, List.setIfInBounds_toArray, List.set_cons_zero, List.set_cons_succ])
          rotate_left 1
          focus
            go_simp
            (refine hK.out _ _ (HSS.out _ HD.out.2.2.2.1) (fun hHeld => ?_); clear hK K; try simp only [Act.put, List.setIfInBounds_toArray, List.set_cons_zero, List.set_cons_succ])
            (refine rgS 8 (h := fun K hK => ?_); rw [if_pos (by rfl)])
            refine app_keep_wp (cs := iC) (w := ((wr.drew.alloc (.cells #[] 106)).alloc (.cells litL 106))) (.tmp 23) (.tmp 28) 102 106 (by rfl) Tryz.underlying102 infoIn rfl (by decide) (fun _ => rfl) wr.heap.size _ [] OW.out.2.1 (by rfl) C _ l (by rfl) (HI.out _ HD.out.2.2.2.1) (fun y _ => iC_one y) (by unfold maxLen; simp only [List.length_nil]; omega) (by simp only [List.length_nil]; omega) ((HD.out.2.2.2.1).size) ?_
            intro v8 w8 o8 k8
            rw [List.nil_append] at o8
            obtain ⟨a8, c8, rfl⟩ := o8.form
            have B8 : Below wr.heap.size wr w8 := (HD.out.2.2.2.1).trans (k8.below ((HD.out.2.2.2.1).size) (fun k hk e => by have e2 : wr.heap.size = k := Option.some.inj e; omega))
            have H8 : Hid (OwG iC 106 8 w8 wr.heap.size (.slice a8 l.length c8) l ∧ Below wr.heap.size wr w8 ∧ w8.heap[(wr.heap.size + 1)]? = some (.cells litL 106)) := ⟨o8, B8, (k8.block _ (Array.getElem?_eq_some_iff.1 LB.out.1).1 (fun e => by have e2 : wr.heap.size = (wr.heap.size + 1) := Option.some.inj e; omega)).trans LB.out.1⟩
            have cT8 := HCT.out w8 B8
            have cT8L := HCT.out (w8.alloc (.cells litL 106)) (B8.alloc B8.size _)
            clear o8 k8 B8
            (refine hK.out _ _ (HSS.out _ H8.out.2.1) (fun hHeld => ?_); clear hK K; try simp only [Act.put, List.setIfInBounds_toArray, List.set_cons_zero, List.set_cons_succ])
            (refine rgS 12 (h := fun K hK => ?_); rw [if_pos (by rfl)])
            refine app_keep_wp (cs := iC) (w := w8) (.tmp 29) (.tmp 32) 102 106 (by rfl) Tryz.underlying102 infoIn rfl (by decide) (fun _ => rfl) wr.heap.size _ l H8.out.1 (by rfl) (w8.heap.size) _ [mkI 77, mkI 78] (by rfl) (InG.lit2 H8.out.2.2 (Array.getElem?_eq_some_iff.1 H8.out.2.2).1) (fun y _ => iC_one y) (by unfold maxLen; simp only [List.length_cons, List.length_nil]; omega) (by simp only [List.length_cons, List.length_nil]; omega) ((H8.out.2.1).size) ?_
            intro v12 w12 o12 k12
            obtain ⟨a12, c12, rfl⟩ := o12.form
            generalize hml : (l ++ [mkI 77, mkI 78]).length = ml at *
            clear hml
            have B12 : Below wr.heap.size wr w12 := (H8.out.2.1).trans (k12.below ((H8.out.2.1).size) (fun k hk e => by have := (World.ownsRow.lt H8.out.1 k e).1; omega))
            have H12 : Hid (OwG iC 106 8 w12 wr.heap.size (.slice a12 ml c12) (l ++ [mkI 77, mkI 78]) ∧ Below wr.heap.size wr w12) := ⟨o12, B12⟩
            have cT12 := HCT.out w12 B12
            have cT13 := HCT.out (w12.alloc (.cells #[.slice a12 ml c12] 102)) (B12.alloc B12.size _)
            clear o12 k12 B12 cT8 cT8L H8
            (refine hK.out _ _ (HSS.out _ H12.out.2) (fun hHeld => ?_); clear hK K; try simp only [Act.put, List.setIfInBounds_toArray, List.set_cons_zero, List.set_cons_succ])
            (refine rgS 13 (h := fun K hK => ?_); go_simp)
            (refine hK.out _ _ (HSS.out _ (H12.out.2.alloc H12.out.2.size _)) (fun hHeld => ?_); clear hK K; try simp only [Act.put, List.setIfInBounds_toArray, List.set_cons_zero, List.set_cons_succ])
          rotate_left 1
        rotate_left 2
        focus
          go_simp
          (refine hK.out _ _ (HSS.out _ HD.out.2.2.1) (fun hHeld => ?_); clear hK K; try simp only [Act.put, List.setIfInBounds_toArray, List.set_cons_zero, List.set_cons_succ])
          (refine rgS 2 (h := fun K hK => ?_); go_simp)
          (refine hK.out _ _ (HSS.out _ HD.out.2.2.2.2) (fun hHeld => ?_); clear hK K; try simp only [Act.put, List.setIfInBounds_toArray, List.set_cons_zero, List.set_cons_succ])
          (refine rgS 8 (h := fun K hK => ?_); rw [if_pos (by rfl)])
          refine app_keep_wp (cs := iC) (w := ((wr.drew.alloc (.cells litL 106)).alloc (.cells #[] 106))) (.tmp 23) (.tmp 28) 102 106 (by rfl) Tryz.underlying102 infoIn rfl (by decide) (fun _ => rfl) wr.heap.size _ [] OW.out.2.2 (by rfl) C _ l (by rfl) (HI.out _ HD.out.2.2.2.2) (fun y _ => iC_one y) (by unfold maxLen; simp only [List.length_nil]; omega) (by simp only [List.length_nil]; omega) ((HD.out.2.2.2.2).size) ?_
          intro v8 w8 o8 k8
          rw [List.nil_append] at o8
          obtain ⟨a8, c8, rfl⟩ := o8.form
          have B8 : Below wr.heap.size wr w8 := (HD.out.2.2.2.2).trans (k8.below ((HD.out.2.2.2.2).size) (fun k hk e => by have e2 : (wr.heap.size + 1) = k := Option.some.inj e; omega))
          have H8 : Hid (OwG iC 106 8 w8 wr.heap.size (.slice a8 l.length c8) l ∧ Below wr.heap.size wr w8 ∧ w8.heap[wr.heap.size]? = some (.cells litL 106)) := ⟨o8, B8, (k8.block _ (Array.getElem?_eq_some_iff.1 LB.out.2).1 (fun e => by have e2 : (wr.heap.size + 1) = wr.heap.size := Option.some.inj e; omega)).trans LB.out.2⟩
          have cT8 := HCT.out w8 B8
          have cT8L := HCT.out (w8.alloc (.cells litL 106)) (B8.alloc B8.size _)
          clear o8 k8 B8
          (refine hK.out _ _ (HSS.out _ H8.out.2.1) (fun hHeld => ?_); clear hK K; try simp only [Act.put, List.setIfInBounds_toArray, List.set_cons_zero, List.set_cons_succ])
          (refine rgS 12 (h := fun K hK => ?_); rw [if_pos (by rfl)])
          refine app_keep_wp (cs := iC) (w := w8) (.tmp 29) (.tmp 32) 102 106 (by rfl) Tryz.underlying102 infoIn rfl (by decide) (fun _ => rfl) wr.heap.size _ l H8.out.1 (by rfl) (w8.heap.size) _ [mkI 77, mkI 78] (by rfl) (InG.lit2 H8.out.2.2 (Array.getElem?_eq_some_iff.1 H8.out.2.2).1) (fun y _ => iC_one y) (by unfold maxLen; simp only [List.length_cons, List.length_nil]; omega) (by simp only [List.length_cons, List.length_nil]; omega) ((H8.out.2.1).size) ?_
          intro v12 w12 o12 k12
          obtain ⟨a12, c12, rfl⟩ := o12.form
          generalize hml : (l ++ [mkI 77, mkI 78]).length = ml at *
          clear hml
          have B12 : Below wr.heap.size wr w12 := (H8.out.2.1).trans (k12.below ((H8.out.2.1).size) (fun k hk e => by have := (World.ownsRow.lt H8.out.1 k e).1; omega))
          have H12 : Hid (OwG iC 106 8 w12 wr.heap.size (.slice a12 ml c12) (l ++ [mkI 77, mkI 78]) ∧ Below wr.heap.size wr w12) := ⟨o12, B12⟩
          have cT12 := HCT.out w12 B12
          have cT13 := HCT.out (w12.alloc (.cells #[.slice a12 ml c12] 102)) (B12.alloc B12.size _)
          clear o12 k12 B12 cT8 cT8L H8
          (refine hK.out _ _ (HSS.out _ H12.out.2) (fun hHeld => ?_); clear hK K; try simp only [Act.put, List.setIfInBounds_toArray, List.set_cons_zero, List.set_cons_succ])
          (refine rgS 13 (h := fun K hK => ?_); go_simp)
          (refine hK.out _ _ (HSS.out _ (H12.out.2.alloc H12.out.2.size _)) (fun hHeld => ?_); clear hK K; try simp only [Act.put, List.setIfInBounds_toArray, List.set_cons_zero, List.set_cons_succ])
        rotate_left 1
      rotate_left 3
      focus
        go_simp
        (refine hK.out _ _ (HSS.out _ HD.out.2.1) (fun hHeld => ?_); clear hK K; try simp only [Act.put, List.setIfInBounds_toArray, List.set_cons_zero, List.set_cons_succ])
        (refine wpAnyH_ready (rs := [1, 8, 11]) (by kernel_rfl) (by simp) ?_; refine rgA 1 (by rfl) (fun K hK => ?_) (rgA 8 (by rfl) (fun K hK => ?_) (rgA 11 (by rfl) (fun K hK => ?_) AllReadyH.nil)) <;> rw [if_pos (by rfl)])
        focus
          go_simp
          (refine hK.out _ _ (HSS.out _ HD.out.2.1) (fun hHeld => ?_); clear hK K; try simp only [Act.put, List.setIfInBounds_toArray, List.set_cons_zero, List.set_cons_succ])
          (refine wpAnyH_ready (rs := [8, 11]) (by kernel_rfl) (by simp) ?_; refine rgA 8 (by rfl) (fun K hK => ?_) (rgA 11 (by rfl) (fun K hK => ?_) AllReadyH.nil) <;> rw [if_pos (by rfl)])
          focus
            refine app_keep_wp (cs := iC) (w := (wr.drew.alloc (.cells #[] 106))) (.tmp 23) (.tmp 28) 102 106 (by rfl) Tryz.underlying102 infoIn rfl (by decide) (fun _ => rfl) wr.heap.size _ [] OW.out.1 (by rfl) C _ l (by rfl) (HI.out _ HD.out.2.1) (fun y _ => iC_one y) (by unfold maxLen; simp only [List.length_nil]; omega) (by simp only [List.length_nil]; omega) ((HD.out.2.1).size) ?_
            intro v8 w8 o8 k8
            rw [List.nil_append] at o8
            obtain ⟨a8, c8, rfl⟩ := o8.form
            have B8 : Below wr.heap.size wr w8 := (HD.out.2.1).trans (k8.below ((HD.out.2.1).size) (fun k hk e => by have e2 : wr.heap.size = k := Option.some.inj e; omega))
            have H8 : Hid (OwG iC 106 8 w8 wr.heap.size (.slice a8 l.length c8) l ∧ Below wr.heap.size wr w8) := ⟨o8, B8⟩
            have cT8 := HCT.out w8 B8
            have cT8L := HCT.out (w8.alloc (.cells litL 106)) (B8.alloc B8.size _)
            clear o8 k8 B8
            (refine hK.out _ _ (HSS.out _ H8.out.2) (fun hHeld => ?_); clear hK K; try simp only [Act.put, List.setIfInBounds_toArray, List.set_cons_zero, List.set_cons_succ])
            (refine rgS 11 (h := fun K hK => ?_); go_simp)
            (refine hK.out _ _ (HSS.out _ (H8.out.2.alloc H8.out.2.size _)) (fun hHeld => ?_); clear hK K; try simp only [Act.put, List.setIfInBounds_toArray, List.set_cons_zero, List.set_cons_succ])
            (refine rgS 12 (h := fun K hK => ?_); rw [if_pos (by rfl)])
            refine app_keep_wp (cs := iC) (w := (w8.alloc (.cells litL 106))) (.tmp 29) (.tmp 32) 102 106 (by rfl) Tryz.underlying102 infoIn rfl (by decide) (fun _ => rfl) wr.heap.size _ l (World.ownsRow.alloc H8.out.1 _) (by rfl) ((w8.alloc (.cells litL 106)).heap.size) _ [mkI 77, mkI 78] (by rfl) (InG.lit2 (heap_alloc_last _ _ _ rfl) (by rw [szAl]; omega)) (fun y _ => iC_one y) (by unfold maxLen; simp only [List.length_cons, List.length_nil]; omega) (by simp only [List.length_cons, List.length_nil]; omega) (((H8.out.2.alloc H8.out.2.size _)).size) ?_
            intro v12 w12 o12 k12
            obtain ⟨a12, c12, rfl⟩ := o12.form
            generalize hml : (l ++ [mkI 77, mkI 78]).length = ml at *
            clear hml
            have B12 : Below wr.heap.size wr w12 := ((H8.out.2.alloc H8.out.2.size _)).trans (k12.below (((H8.out.2.alloc H8.out.2.size _)).size) (fun k hk e => by have := (World.ownsRow.lt H8.out.1 k e).1; omega))
            have H12 : Hid (OwG iC 106 8 w12 wr.heap.size (.slice a12 ml c12) (l ++ [mkI 77, mkI 78]) ∧ Below wr.heap.size wr w12) := ⟨o12, B12⟩
            have cT12 := HCT.out w12 B12
            have cT13 := HCT.out (w12.alloc (.cells #[.slice a12 ml c12] 102)) (B12.alloc B12.size _)
            clear o12 k12 B12 cT8 cT8L H8
            (refine hK.out _ _ (HSS.out _ H12.out.2) (fun hHeld => ?_); clear hK K; try simp only [Act.put, List.setIfInBounds_toArray, List.set_cons_zero, List.set_cons_succ])
            (refine rgS 13 (h := fun K hK => ?_); go_simp)
            (refine hK.out _ _ (HSS.out _ (H12.out.2.alloc H12.out.2.size _)) (fun hHeld => ?_); clear hK K; try simp only [Act.put, List.setIfInBounds_toArray, List.set_cons_zero, List.set_cons_succ])
          rotate_left 1
          focus
            go_simp
            (refine hK.out _ _ (HSS.out _ HD.out.2.2.2.1) (fun hHeld => ?_); clear hK K; try simp only [Act.put, List.setIfInBounds_toArray, List.set_cons_zero, List.set_cons_succ])
            (refine rgS 8 (h := fun K hK => ?_); rw [if_pos (by rfl)])
            refine app_keep_wp (cs := iC) (w := ((wr.drew.alloc (.cells #[] 106)).alloc (.cells litL 106))) (.tmp 23) (.tmp 28) 102 106 (by rfl) Tryz.underlying102 infoIn rfl (by decide) (fun _ => rfl) wr.heap.size _ [] OW.out.2.1 (by rfl) C _ l (by rfl) (HI.out _ HD.out.2.2.2.1) (fun y _ => iC_one y) (by unfold maxLen; simp only [List.length_nil]; omega) (by simp only [List.length_nil]; omega) ((HD.out.2.2.2.1).size) ?_
            intro v8 w8 o8 k8
            rw [List.nil_append] at o8
            obtain ⟨a8, c8, rfl⟩ := o8.form
            have B8 : Below wr.heap.size wr w8 := (HD.out.2.2.2.1).trans (k8.below ((HD.out.2.2.2.1).size) (fun k hk e => by have e2 : wr.heap.size = k := Option.some.inj e; omega))
            have H8 : Hid (OwG iC 106 8 w8 wr.heap.size (.slice a8 l.length c8) l ∧ Below wr.heap.size wr w8 ∧ w8.heap[(wr.heap.size + 1)]? = some (.cells litL 106)) := ⟨o8, B8, (k8.block _ (Array.getElem?_eq_some_iff.1 LB.out.1).1 (fun e => by have e2 : wr.heap.size = (wr.heap.size + 1) := Option.some.inj e; omega)).trans LB.out.1⟩
            have cT8 := HCT.out w8 B8
            have cT8L := HCT.out (w8.alloc (.cells litL 106)) (B8.alloc B8.size _)
            clear o8 k8 B8
            (refine hK.out _ _ (HSS.out _ H8.out.2.1) (fun hHeld => ?_); clear hK K; try simp only [Act.put, List.setIfInBounds_toArray, List.set_cons_zero, List.set_cons_succ])
            (refine rgS 12 (h := fun K hK => ?_); rw [if_pos (by rfl)])
            refine app_keep_wp (cs := iC) (w := w8) (.tmp 29) (.tmp 32) 102 106 (by rfl) Tryz.underlying102 infoIn rfl (by decide) (fun _ => rfl) wr.heap.size _ l H8.out.1 (by rfl) (w8.heap.size) _ [mkI 77, mkI 78] (by rfl) (InG.lit2 H8.out.2.2 (Array.getElem?_eq_some_iff.1 H8.out.2.2).1) (fun y _ => iC_one y) (by unfold maxLen; simp only [List.length_cons, List.length_nil]; omega) (by simp only [List.length_cons, List.length_nil]; omega) ((H8.out.2.1).size) ?_
            intro v12 w12 o12 k12
            obtain ⟨a12, c12, rfl⟩ := o12.form
            generalize hml : (l ++ [mkI 77, mkI 78]).length = ml at *
            clear hml
            have B12 : Below wr.heap.size wr w12 := (H8.out.2.1).trans (k12.below ((H8.out.2.1).size) (fun k hk e => by have := (World.ownsRow.lt H8.out.1 k e).1; omega))
            have H12 : Hid (OwG iC 106 8 w12 wr.heap.size (.slice a12 ml c12) (l ++ [mkI 77, mkI 78]) ∧ Below wr.heap.size wr w12) := ⟨o12, B12⟩
            have cT12 := HCT.out w12 B12
            have cT13 := HCT.out (w12.alloc (.cells #[.slice a12 ml c12] 102)) (B12.alloc B12.size _)
            clear o12 k12 B12 cT8 cT8L H8
            (refine hK.out _ _ (HSS.out _ H12.out.2) (fun hHeld => ?_); clear hK K; try simp only [Act.put, List.setIfInBounds_toArray, List.set_cons_zero, List.set_cons_succ])
            (refine rgS 13 (h := fun K hK => ?_); go_simp)
            (refine hK.out _ _ (HSS.out _ (H12.out.2.alloc H12.out.2.size _)) (fun hHeld => ?_); clear hK K; try simp only [Act.put, List.setIfInBounds_toArray, List.set_cons_zero, List.set_cons_succ])
          rotate_left 1
        rotate_left 2
        focus
          refine app_keep_wp (cs := iC) (w := (wr.drew.alloc (.cells #[] 106))) (.tmp 23) (.tmp 28) 102 106 (by rfl) Tryz.underlying102 infoIn rfl (by decide) (fun _ => rfl) wr.heap.size _ [] OW.out.1 (by rfl) C _ l (by rfl) (HI.out _ HD.out.2.1) (fun y _ => iC_one y) (by unfold maxLen; simp only [List.length_nil]; omega) (by simp only [List.length_nil]; omega) ((HD.out.2.1).size) ?_
          intro v8 w8 o8 k8
          rw [List.nil_append] at o8
          obtain ⟨a8, c8, rfl⟩ := o8.form
          have B8 : Below wr.heap.size wr w8 := (HD.out.2.1).trans (k8.below ((HD.out.2.1).size) (fun k hk e => by have e2 : wr.heap.size = k := Option.some.inj e; omega))
          have H8 : Hid (OwG iC 106 8 w8 wr.heap.size (.slice a8 l.length c8) l ∧ Below wr.heap.size wr w8) := ⟨o8, B8⟩
          have cT8 := HCT.out w8 B8
          have cT8L := HCT.out (w8.alloc (.cells litL 106)) (B8.alloc B8.size _)
          clear o8 k8 B8
          (refine hK.out _ _ (HSS.out _ H8.out.2) (fun hHeld => ?_); clear hK K; try simp only [Act.put, List.setIfInBounds_toArray, List.set_cons_zero, List.set_cons_succ])
          (refine wpAnyH_ready (rs := [1, 11]) (by kernel_rfl) (by simp) ?_; refine rgA 1 (by rfl) (fun K hK => ?_) (rgA 11 (by rfl) (fun K hK => ?_) AllReadyH.nil) <;> rw [if_pos (by rfl)])
          focus
            go_simp
            (refine hK.out _ _ (HSS.out _ H8.out.2) (fun hHeld => ?_); clear hK K; try simp only [Act.put, List.setIfInBounds_toArray, List.set_cons_zero, List.set_cons_succ])
            (refine rgS 11 (h := fun K hK => ?_); go_simp)
            (refine hK.out _ _ (HSS.out _ (H8.out.2.alloc H8.out.2.size _)) (fun hHeld => ?_); clear hK K; try simp only [Act.put, List.setIfInBounds_toArray, List.set_cons_zero, List.set_cons_succ])
            (refine rgS 12 (h := fun K hK => ?_); rw [if_pos (by rfl)])
            refine app_keep_wp (cs := iC) (w := (w8.alloc (.cells litL 106))) (.tmp 29) (.tmp 32) 102 106 (by rfl) Tryz.underlying102 infoIn rfl (by decide) (fun _ => rfl) wr.heap.size _ l (World.ownsRow.alloc H8.out.1 _) (by rfl) ((w8.alloc (.cells litL 106)).heap.size) _ [mkI 77, mkI 78] (by rfl) (InG.lit2 (heap_alloc_last _ _ _ rfl) (by rw [szAl]; omega)) (fun y _ => iC_one y) (by unfold maxLen; simp only [List.length_cons, List.length_nil]; omega) (by simp only [List.length_cons, List.length_nil]; omega) (((H8.out.2.alloc H8.out.2.size _)).size) ?_
            intro v12 w12 o12 k12
            obtain ⟨a12, c12, rfl⟩ := o12.form
            generalize hml : (l ++ [mkI 77, mkI 78]).length = ml at *
            clear hml
            have B12 : Below wr.heap.size wr w12 := ((H8.out.2.alloc H8.out.2.size _)).trans (k12.below (((H8.out.2.alloc H8.out.2.size _)).size) (fun k hk e => by have := (World.ownsRow.lt H8.out.1 k e).1; omega))
            have H12 : Hid (OwG iC 106 8 w12 wr.heap.size (.slice a12 ml c12) (l ++ [mkI 77, mkI 78]) ∧ Below wr.heap.size wr w12) := ⟨o12, B12⟩
            have cT12 := HCT.out w12 B12
            have cT13 := HCT.out (w12.alloc (.cells #[.slice a12 ml c12] 102)) (B12.alloc B12.size _)
            clear o12 k12 B12 cT8 cT8L H8
            (refine hK.out _ _ (HSS.out _ H12.out.2) (fun hHeld => ?_); clear hK K; try simp only [Act.put, List.setIfInBounds_toArray, List.set_cons_zero, List.set_cons_succ])
            (refine rgS 13 (h := fun K hK => ?_); go_simp)
            (refine hK.out _ _ (HSS.out _ (H12.out.2.alloc H12.out.2.size _)) (fun hHeld => ?_); clear hK K; try simp only [Act.put, List.setIfInBounds_toArray, List.set_cons_zero, List.set_cons_succ])
          rotate_left 1
          focus
            go_simp
            (refine hK.out _ _ (HSS.out _ (H8.out.2.alloc H8.out.2.size _)) (fun hHeld => ?_); clear hK K; try simp only [Act.put, List.setIfInBounds_toArray, List.set_cons_zero, List.set_cons_succ])
            (refine wpAnyH_ready (rs := [1, 12]) (by kernel_rfl) (by simp) ?_; refine rgA 1 (by rfl) (fun K hK => ?_) (rgA 12 (by rfl) (fun K hK => ?_) AllReadyH.nil) <;> rw [if_pos (by rfl)])
            focus
              go_simp
              (refine hK.out _ _ (HSS.out _ (H8.out.2.alloc H8.out.2.size _)) (fun hHeld => ?_); clear hK K; try simp only [Act.put, List.setIfInBounds_toArray, List.set_cons_zero, List.set_cons_succ])
              (refine rgS 12 (h := fun K hK => ?_); rw [if_pos (by rfl)])
              refine app_keep_wp (cs := iC) (w := (w8.alloc (.cells litL 106))) (.tmp 29) (.tmp 32) 102 106 (by rfl) Tryz.underlying102 infoIn rfl (by decide) (fun _ => rfl) wr.heap.size _ l (World.ownsRow.alloc H8.out.1 _) (by rfl) ((w8.alloc (.cells litL 106)).heap.size) _ [mkI 77, mkI 78] (by rfl) (InG.lit2 (heap_alloc_last _ _ _ rfl) (by rw [szAl]; omega)) (fun y _ => iC_one y) (by unfold maxLen; simp only [List.length_cons, List.length_nil]; omega) (by simp only [List.length_cons, List.length_nil]; omega) (((H8.out.2.alloc H8.out.2.size _)).size) ?_
              intro v12 w12 o12 k12
              obtain ⟨a12, c12, rfl⟩ := o12.form
              generalize hml : (l ++ [mkI 77, mkI 78]).length = ml at *
              clear hml
              have B12 : Below wr.heap.size wr w12 := ((H8.out.2.alloc H8.out.2.size _)).trans (k12.below (((H8.out.2.alloc H8.out.2.size _)).size) (fun k hk e => by have := (World.ownsRow.lt H8.out.1 k e).1; omega))
              have H12 : Hid (OwG iC 106 8 w12 wr.heap.size (.slice a12 ml c12) (l ++ [mkI 77, mkI 78]) ∧ Below wr.heap.size wr w12) := ⟨o12, B12⟩
              have cT12 := HCT.out w12 B12
              have cT13 := HCT.out (w12.alloc (.cells #[.slice a12 ml c12] 102)) (B12.alloc B12.size _)
              clear o12 k12 B12 cT8 cT8L H8
              (refine hK.out _ _ (HSS.out _ H12.out.2) (fun hHeld => ?_); clear hK K; try simp only [Act.put, List.setIfInBounds_toArray, List.set_cons_zero, List.set_cons_succ])
              (refine rgS 13 (h := fun K hK => ?_); go_simp)
              (refine hK.out _ _ (HSS.out _ (H12.out.2.alloc H12.out.2.size _)) (fun hHeld => ?_); clear hK K; try simp only [Act.put, List.setIfInBounds_toArray, List.set_cons_zero, List.set_cons_succ])
            rotate_left 1
            focus
              refine app_keep_wp (cs := iC) (w := (w8.alloc (.cells litL 106))) (.tmp 29) (.tmp 32) 102 106 (by rfl) Tryz.underlying102 infoIn rfl (by decide) (fun _ => rfl) wr.heap.size _ l (World.ownsRow.alloc H8.out.1 _) (by rfl) ((w8.alloc (.cells litL 106)).heap.size) _ [mkI 77, mkI 78] (by rfl) (InG.lit2 (heap_alloc_last _ _ _ rfl) (by rw [szAl]; omega)) (fun y _ => iC_one y) (by unfold maxLen; simp only [List.length_cons, List.length_nil]; omega) (by simp only [List.length_cons, List.length_nil]; omega) (((H8.out.2.alloc H8.out.2.size _)).size) ?_
              intro v12 w12 o12 k12
              obtain ⟨a12, c12, rfl⟩ := o12.form
              generalize hml : (l ++ [mkI 77, mkI 78]).length = ml at *
              clear hml
              have B12 : Below wr.heap.size wr w12 := ((H8.out.2.alloc H8.out.2.size _)).trans (k12.below (((H8.out.2.alloc H8.out.2.size _)).size) (fun k hk e => by have := (World.ownsRow.lt H8.out.1 k e).1; omega))
              have H12 : Hid (OwG iC 106 8 w12 wr.heap.size (.slice a12 ml c12) (l ++ [mkI 77, mkI 78]) ∧ Below wr.heap.size wr w12) := ⟨o12, B12⟩
              have cT12 := HCT.out w12 B12
              have cT13 := HCT.out (w12.alloc (.cells #[.slice a12 ml c12] 102)) (B12.alloc B12.size _)
              clear o12 k12 B12 cT8 cT8L H8
              (refine hK.out _ _ (HSS.out _ H12.out.2) (fun hHeld => ?_); clear hK K; try simp only [Act.put, List.setIfInBounds_toArray, List.set_cons_zero, List.set_cons_succ])
              (refine wpAnyH_ready (rs := [1, 13]) (by kernel_rfl) (by simp) ?_; refine rgA 1 (by rfl) (fun K hK => ?_) (rgA 13 (by rfl) (fun K hK => ?_) AllReadyH.nil) <;> rw [if_pos (by rfl)])
              focus
                go_simp
                (refine hK.out _ _ (HSS.out _ H12.out.2) (fun hHeld => ?_); clear hK K; try simp only [Act.put, List.setIfInBounds_toArray, List.set_cons_zero, List.set_cons_succ])
                (refine rgS 13 (h := fun K hK => ?_); go_simp)
                (refine hK.out _ _ (HSS.out _ (H12.out.2.alloc H12.out.2.size _)) (fun hHeld => ?_); clear hK K; try simp only [Act.put, List.setIfInBounds_toArray, List.set_cons_zero, List.set_cons_succ])
              rotate_left 1
              focus
                go_simp
                (refine hK.out _ _ (HSS.out _ (H12.out.2.alloc H12.out.2.size _)) (fun hHeld => ?_); clear hK K; try simp only [Act.put, List.setIfInBounds_toArray, List.set_cons_zero, List.set_cons_succ])
                (refine rgS 1 (h := fun K hK => ?_); go_simp)
                (refine hK.out _ _ (HSS.out _ (H12.out.2.alloc H12.out.2.size _)) (fun hHeld => ?_); clear hK K; try simp only [Act.put, List.setIfInBounds_toArray, List.set_cons_zero, List.set_cons_succ])
              rotate_left 1
            rotate_left 2
          rotate_left 3
        rotate_left 4
        focus
          go_simp
          (refine hK.out _ _ (HSS.out _ HD.out.2.2.2.1) (fun hHeld => ?_); clear hK K; try simp only [Act.put, List.setIfInBounds_toArray, List.set_cons_zero, List.set_cons_succ])
          (refine wpAnyH_ready (rs := [1, 8]) (by kernel_rfl) (by simp) ?_; refine rgA 1 (by rfl) (fun K hK => ?_) (rgA 8 (by rfl) (fun K hK => ?_) AllReadyH.nil) <;> rw [if_pos (by rfl)])
          focus
            go_simp
            (refine hK.out _ _ (HSS.out _ HD.out.2.2.2.1) (fun hHeld => ?_); clear hK K; try simp only [Act.put, List.setIfInBounds_toArray, List.set_cons_zero, List.set_cons_succ])
            (refine rgS 8 (h := fun K hK => ?_); rw [if_pos (by rfl)])
            refine app_keep_wp (cs := iC) (w := ((wr.drew.alloc (.cells #[] 106)).alloc (.cells litL 106))) (.tmp 23) (.tmp 28) 102 106 (by rfl) Tryz.underlying102 infoIn rfl (by decide) (fun _ => rfl) wr.heap.size _ [] OW.out.2.1 (by rfl) C _ l (by rfl) (HI.out _ HD.out.2.2.2.1) (fun y _ => iC_one y) (by unfold maxLen; simp only [List.length_nil]; omega) (by simp only [List.length_nil]; omega) ((HD.out.2.2.2.1).size) ?_
            intro v8 w8 o8 k8
            rw [List.nil_append] at o8
            obtain ⟨a8, c8, rfl⟩ := o8.form
            have B8 : Below wr.heap.size wr w8 := (HD.out.2.2.2.1).trans (k8.below ((HD.out.2.2.2.1).size) (fun k hk e => by have e2 : wr.heap.size = k := Option.some.inj e; omega))
            have H8 : Hid (OwG iC 106 8 w8 wr.heap.size (.slice a8 l.length c8) l ∧ Below wr.heap.size wr w8 ∧ w8.heap[(wr.heap.size + 1)]? = some (.cells litL 106)) := ⟨o8, B8, (k8.block _ (Array.getElem?_eq_some_iff.1 LB.out.1).1 (fun e => by have e2 : wr.heap.size = (wr.heap.size + 1) := Option.some.inj e; omega)).trans LB.out.1⟩
            have cT8 := HCT.out w8 B8
            have cT8L := HCT.out (w8.alloc (.cells litL 106)) (B8.alloc B8.size _)
            clear o8 k8 B8
            (refine hK.out _ _ (HSS.out _ H8.out.2.1) (fun hHeld => ?_); clear hK K; try simp only [Act.put, List.setIfInBounds_toArray, List.set_cons_zero, List.set_cons_succ])
            (refine rgS 12 (h := fun K hK => ?_); rw [if_pos (by rfl)])
            refine app_keep_wp (cs := iC) (w := w8) (.tmp 29) (.tmp 32) 102 106 (by rfl) Tryz.underlying102 infoIn rfl (by decide) (fun _ => rfl) wr.heap.size _ l H8.out.1 (by rfl) (w8.heap.size) _ [mkI 77, mkI 78] (by rfl) (InG.lit2 H8.out.2.2 (Array.getElem?_eq_some_iff.1 H8.out.2.2).1) (fun y _ => iC_one y) (by unfold maxLen; simp only [List.length_cons, List.length_nil]; omega) (by simp only [List.length_cons, List.length_nil]; omega) ((H8.out.2.1).size) ?_
            intro v12 w12 o12 k12
            obtain ⟨a12, c12, rfl⟩ := o12.form
            generalize hml : (l ++ [mkI 77, mkI 78]).length = ml at *
            clear hml
            have B12 : Below wr.heap.size wr w12 := (H8.out.2.1).trans (k12.below ((H8.out.2.1).size) (fun k hk e => by have := (World.ownsRow.lt H8.out.1 k e).1; omega))
            have H12 : Hid (OwG iC 106 8 w12 wr.heap.size (.slice a12 ml c12) (l ++ [mkI 77, mkI 78]) ∧ Below wr.heap.size wr w12) := ⟨o12, B12⟩
            have cT12 := HCT.out w12 B12
            have cT13 := HCT.out (w12.alloc (.cells #[.slice a12 ml c12] 102)) (B12.alloc B12.size _)
            clear o12 k12 B12 cT8 cT8L H8
            (refine hK.out _ _ (HSS.out _ H12.out.2) (fun hHeld => ?_); clear hK K; try simp only [Act.put, List.setIfInBounds_toArray, List.set_cons_zero, List.set_cons_succ])
            (refine rgS 13 (h := fun K hK => ?_); go_simp)
            (refine hK.out _ _ (HSS.out _ (H12.out.2.alloc H12.out.2.size _)) (fun hHeld => ?_); clear hK K; try simp only [Act.put, List.setIfInBounds_toArray, List.set_cons_zero, List.set_cons_succ])
          rotate_left 1
          focus
            refine app_keep_wp (cs := iC) (w := ((wr.drew.alloc (.cells #[] 106)).alloc (.cells litL 106))) (.tmp 23) (.tmp 28) 102 106 (by rfl) Tryz.underlying102 infoIn rfl (by decide) (fun _ => rfl) wr.heap.size _ [] OW.out.2.1 (by rfl) C _ l (by rfl) (HI.out _ HD.out.2.2.2.1) (fun y _ => iC_one y) (by unfold maxLen; simp only [List.length_nil]; omega) (by simp only [List.length_nil]; omega) ((HD.out.2.2.2.1).size) ?_
            intro v8 w8 o8 k8
            rw [List.nil_append] at o8
            obtain ⟨a8, c8, rfl⟩ := o8.form
            have B8 : Below wr.heap.size wr w8 := (HD.out.2.2.2.1).trans (k8.below ((HD.out.2.2.2.1).size) (fun k hk e => by have e2 : wr.heap.size = k := Option.some.inj e; omega))
            have H8 : Hid (OwG iC 106 8 w8 wr.heap.size (.slice a8 l.length c8) l ∧ Below wr.heap.size wr w8 ∧ w8.heap[(wr.heap.size + 1)]? = some (.cells litL 106)) := ⟨o8, B8, (k8.block _ (Array.getElem?_eq_some_iff.1 LB.out.1).1 (fun e => by have e2 : wr.heap.size = (wr.heap.size + 1) := Option.some.inj e; omega)).trans LB.out.1⟩
            have cT8 := HCT.out w8 B8
            have cT8L := HCT.out (w8.alloc (.cells litL 106)) (B8.alloc B8.size _)
            clear o8 k8 B8
            (refine hK.out _ _ (HSS.out _ H8.out.2.1) (fun hHeld => ?_); clear hK K; try simp only [Act.put, List.setIfInBounds_toArray, List.set_cons_zero, List.set_cons_succ])
            (refine wpAnyH_ready (rs := [1, 12]) (by kernel_rfl) (by simp) ?_; refine rgA 1 (by rfl) (fun K hK => ?_) (rgA 12 (by rfl) (fun K hK => ?_) AllReadyH.nil) <;> rw [if_pos (by rfl)])
            focus
              go_simp
              (refine hK.out _ _ (HSS.out _ H8.out.2.1) (fun hHeld => ?_); clear hK K; try simp only [Act.put, List.setIfInBounds_toArray, List.set_cons_zero, List.set_cons_succ])
              (refine rgS 12 (h := fun K hK => ?_); rw [if_pos (by rfl)])
              refine app_keep_wp (cs := iC) (w := w8) (.tmp 29) (.tmp 32) 102 106 (by rfl) Tryz.underlying102 infoIn rfl (by decide) (fun _ => rfl) wr.heap.size _ l H8.out.1 (by rfl) (w8.heap.size) _ [mkI 77, mkI 78] (by rfl) (InG.lit2 H8.out.2.2 (Array.getElem?_eq_some_iff.1 H8.out.2.2).1) (fun y _ => iC_one y) (by unfold maxLen; simp only [List.length_cons, List.length_nil]; omega) (by simp only [List.length_cons, List.length_nil]; omega) ((H8.out.2.1).size) ?_
              intro v12 w12 o12 k12
              obtain ⟨a12, c12, rfl⟩ := o12.form
              generalize hml : (l ++ [mkI 77, mkI 78]).length = ml at *
              clear hml
              have B12 : Below wr.heap.size wr w12 := (H8.out.2.1).trans (k12.below ((H8.out.2.1).size) (fun k hk e => by have := (World.ownsRow.lt H8.out.1 k e).1; omega))
              have H12 : Hid (OwG iC 106 8 w12 wr.heap.size (.slice a12 ml c12) (l ++ [mkI 77, mkI 78]) ∧ Below wr.heap.size wr w12) := ⟨o12, B12⟩
              have cT12 := HCT.out w12 B12
              have cT13 := HCT.out (w12.alloc (.cells #[.slice a12 ml c12] 102)) (B12.alloc B12.size _)
              clear o12 k12 B12 cT8 cT8L H8
              (refine hK.out _ _ (HSS.out _ H12.out.2) (fun hHeld => ?_); clear hK K; try simp only [Act.put, List.setIfInBounds_toArray, List.set_cons_zero, List.set_cons_succ])
              (refine rgS 13 (h := fun K hK => ?_); go_simp)
              (refine hK.out _ _ (HSS.out _ (H12.out.2.alloc H12.out.2.size _)) (fun hHeld => ?_); clear hK K; try simp only [Act.put, List.setIfInBounds_toArray, List.set_cons_zero, List.set_cons_succ])
            rotate_left 1
            focus
              refine app_keep_wp (cs := iC) (w := w8) (.tmp 29) (.tmp 32) 102 106 (by rfl) Tryz.underlying102 infoIn rfl (by decide) (fun _ => rfl) wr.heap.size _ l H8.out.1 (by rfl) (w8.heap.size) _ [mkI 77, mkI 78] (by rfl) (InG.lit2 H8.out.2.2 (Array.getElem?_eq_some_iff.1 H8.out.2.2).1) (fun y _ => iC_one y) (by unfold maxLen; simp only [List.length_cons, List.length_nil]; omega) (by simp only [List.length_cons, List.length_nil]; omega) ((H8.out.2.1).size) ?_
              intro v12 w12 o12 k12
              obtain ⟨a12, c12, rfl⟩ := o12.form
              generalize hml : (l ++ [mkI 77, mkI 78]).length = ml at *
              clear hml
              have B12 : Below wr.heap.size wr w12 := (H8.out.2.1).trans (k12.below ((H8.out.2.1).size) (fun k hk e => by have := (World.ownsRow.lt H8.out.1 k e).1; omega))
              have H12 : Hid (OwG iC 106 8 w12 wr.heap.size (.slice a12 ml c12) (l ++ [mkI 77, mkI 78]) ∧ Below wr.heap.size wr w12) := ⟨o12, B12⟩
              have cT12 := HCT.out w12 B12
              have cT13 := HCT.out (w12.alloc (.cells #[.slice a12 ml c12] 102)) (B12.alloc B12.size _)
              clear o12 k12 B12 cT8 cT8L H8
              (refine hK.out _ _ (HSS.out _ H12.out.2) (fun hHeld => ?_); clear hK K; try simp only [Act.put, List.setIfInBounds_toArray, List.set_cons_zero, List.set_cons_succ])
              (refine wpAnyH_ready (rs := [1, 13]) (by kernel_rfl) (by simp) ?_; refine rgA 1 (by rfl) (fun K hK => ?_) (rgA 13 (by rfl) (fun K hK => ?_) AllReadyH.nil) <;> rw [if_pos (by rfl)])
              focus
                go_simp
                (refine hK.out _ _ (HSS.out _ H12.out.2) (fun hHeld => ?_); clear hK K; try simp only [Act.put, List.setIfInBounds_toArray, List.set_cons_zero, List.set_cons_succ])
                (refine rgS 13 (h := fun K hK => ?_); go_simp)
                (refine hK.out _ _ (HSS.out _ (H12.out.2.alloc H12.out.2.size _)) (fun hHeld => ?_); clear hK K; try simp only [Act.put, List.setIfInBounds_toArray, List.set_cons_zero, List.set_cons_succ])
              rotate_left 1
              focus
                go_simp
                (refine hK.out _ _ (HSS.out _ (H12.out.2.alloc H12.out.2.size _)) (fun hHeld => ?_); clear hK K; try simp only [Act.put, List.setIfInBounds_toArray, List.set_cons_zero, List.set_cons_succ])
                (refine rgS 1 (h := fun K hK => ?_); go_simp)
                (refine hK.out _ _ (HSS.out _ (H12.out.2.alloc H12.out.2.size _)) (fun hHeld => ?_); clear hK K; try simp only [Act.put, List.setIfInBounds_toArray, List.set_cons_zero, List.set_cons_succ])
              rotate_left 1
            rotate_left 2
          rotate_left 3
        rotate_left 4
      rotate_left 10
      focus
        go_simp
        (refine hK.out _ _ (HSS.out _ HD.out.2.2.1) (fun hHeld => ?_); clear hK K; try simp only [Act.put, List.setIfInBounds_toArray, List.set_cons_zero, List.set_cons_succ])
        (refine wpAnyH_ready (rs := [1, 2]) (by kernel_rfl) (by simp) ?_; refine rgA 1 (by rfl) (fun K hK => ?_) (rgA 2 (by rfl) (fun K hK => ?_) AllReadyH.nil) <;> rw [if_pos (by rfl)])
        focus
          go_simp
          (refine hK.out _ _ (HSS.out _ HD.out.2.2.1) (fun hHeld => ?_); clear hK K; try simp only [Act.put, List.setIfInBounds_toArray, List.set_cons_zero, List.set_cons_succ])
          (refine rgS 2 (h := fun K hK => ?_); go_simp)
          (refine hK.out _ _ (HSS.out _ HD.out.2.2.2.2) (fun hHeld => ?_); clear hK K; try simp only [Act.put, List.setIfInBounds_toArray, List.set_cons_zero, List.set_cons_succ])
          (refine rgS 8 (h := fun K hK => ?_); rw [if_pos (by rfl)])
          refine app_keep_wp (cs := iC) (w := ((wr.drew.alloc (.cells litL 106)).alloc (.cells #[] 106))) (.tmp 23) (.tmp 28) 102 106 (by rfl) Tryz.underlying102 infoIn rfl (by decide) (fun _ => rfl) wr.heap.size _ [] OW.out.2.2 (by rfl) C _ l (by rfl) (HI.out _ HD.out.2.2.2.2) (fun y _ => iC_one y) (by unfold maxLen; simp only [List.length_nil]; omega) (by simp only [List.length_nil]; omega) ((HD.out.2.2.2.2).size) ?_
          intro v8 w8 o8 k8
          rw [List.nil_append] at o8
          obtain ⟨a8, c8, rfl⟩ := o8.form
          have B8 : Below wr.heap.size wr w8 := (HD.out.2.2.2.2).trans (k8.below ((HD.out.2.2.2.2).size) (fun k hk e => by have e2 : (wr.heap.size + 1) = k := Option.some.inj e; omega))
          have H8 : Hid (OwG iC 106 8 w8 wr.heap.size (.slice a8 l.length c8) l ∧ Below wr.heap.size wr w8 ∧ w8.heap[wr.heap.size]? = some (.cells litL 106)) := ⟨o8, B8, (k8.block _ (Array.getElem?_eq_some_iff.1 LB.out.2).1 (fun e => by have e2 : (wr.heap.size + 1) = wr.heap.size := Option.some.inj e; omega)).trans LB.out.2⟩
          have cT8 := HCT.out w8 B8
          have cT8L := HCT.out (w8.alloc (.cells litL 106)) (B8.alloc B8.size _)
          clear o8 k8 B8
          (refine hK.out _ _ (HSS.out _ H8.out.2.1) (fun hHeld => ?_); clear hK K; try simp only [Act.put, List.setIfInBounds_toArray, List.set_cons_zero, List.set_cons_succ])
          (refine rgS 12 (h := fun K hK => ?_); rw [if_pos (by rfl)])
          refine app_keep_wp (cs := iC) (w := w8) (.tmp 29) (.tmp 32) 102 106 (by rfl) Tryz.underlying102 infoIn rfl (by decide) (fun _ => rfl) wr.heap.size _ l H8.out.1 (by rfl) (w8.heap.size) _ [mkI 77, mkI 78] (by rfl) (InG.lit2 H8.out.2.2 (Array.getElem?_eq_some_iff.1 H8.out.2.2).1) (fun y _ => iC_one y) (by unfold maxLen; simp only [List.length_cons, List.length_nil]; omega) (by simp only [List.length_cons, List.length_nil]; omega) ((H8.out.2.1).size) ?_
          intro v12 w12 o12 k12
          obtain ⟨a12, c12, rfl⟩ := o12.form
          generalize hml : (l ++ [mkI 77, mkI 78]).length = ml at *
          clear hml
          have B12 : Below wr.heap.size wr w12 := (H8.out.2.1).trans (k12.below ((H8.out.2.1).size) (fun k hk e => by have := (World.ownsRow.lt H8.out.1 k e).1; omega))
          have H12 : Hid (OwG iC 106 8 w12 wr.heap.size (.slice a12 ml c12) (l ++ [mkI 77, mkI 78]) ∧ Below wr.heap.size wr w12) := ⟨o12, B12⟩
          have cT12 := HCT.out w12 B12
          have cT13 := HCT.out (w12.alloc (.cells #[.slice a12 ml c12] 102)) (B12.alloc B12.size _)
          clear o12 k12 B12 cT8 cT8L H8
          (refine hK.out _ _ (HSS.out _ H12.out.2) (fun hHeld => ?_); clear hK K; try simp only [Act.put, List.setIfInBounds_toArray, List.set_cons_zero, List.set_cons_succ])
          (refine rgS 13 (h := fun K hK => ?_); go_simp)
          (refine hK.out _ _ (HSS.out _ (H12.out.2.alloc H12.out.2.size _)) (fun hHeld => ?_); clear hK K; try simp only [Act.put, List.setIfInBounds_toArray, List.set_cons_zero, List.set_cons_succ])
        rotate_left 1
        focus
          go_simp
          (refine hK.out _ _ (HSS.out _ HD.out.2.2.2.2) (fun hHeld => ?_); clear hK K; try simp only [Act.put, List.setIfInBounds_toArray, List.set_cons_zero, List.set_cons_succ])
          (refine wpAnyH_ready (rs := [1, 8]) (by kernel_rfl) (by simp) ?_; refine rgA 1 (by rfl) (fun K hK => ?_) (rgA 8 (by rfl) (fun K hK => ?_) AllReadyH.nil) <;> rw [if_pos (by rfl)])
          focus
            go_simp
            (refine hK.out _ _ (HSS.out _ HD.out.2.2.2.2) (fun hHeld => ?_); clear hK K; try simp only [Act.put, List.setIfInBounds_toArray, List.set_cons_zero, List.set_cons_succ])
            (refine rgS 8 (h := fun K hK => ?_); rw [if_pos (by rfl)])
            refine app_keep_wp (cs := iC) (w := ((wr.drew.alloc (.cells litL 106)).alloc (.cells #[] 106))) (.tmp 23) (.tmp 28) 102 106 (by rfl) Tryz.underlying102 infoIn rfl (by decide) (fun _ => rfl) wr.heap.size _ [] OW.out.2.2 (by rfl) C _ l (by rfl) (HI.out _ HD.out.2.2.2.2) (fun y _ => iC_one y) (by unfold maxLen; simp only [List.length_nil]; omega) (by simp only [List.length_nil]; omega) ((HD.out.2.2.2.2).size) ?_
            intro v8 w8 o8 k8
            rw [List.nil_append] at o8
            obtain ⟨a8, c8, rfl⟩ := o8.form
            have B8 : Below wr.heap.size wr w8 := (HD.out.2.2.2.2).trans (k8.below ((HD.out.2.2.2.2).size) (fun k hk e => by have e2 : (wr.heap.size + 1) = k := Option.some.inj e; omega))
            have H8 : Hid (OwG iC 106 8 w8 wr.heap.size (.slice a8 l.length c8) l ∧ Below wr.heap.size wr w8 ∧ w8.heap[wr.heap.size]? = some (.cells litL 106)) := ⟨o8, B8, (k8.block _ (Array.getElem?_eq_some_iff.1 LB.out.2).1 (fun e => by have e2 : (wr.heap.size + 1) = wr.heap.size := Option.some.inj e; omega)).trans LB.out.2⟩
            have cT8 := HCT.out w8 B8
            have cT8L := HCT.out (w8.alloc (.cells litL 106)) (B8.alloc B8.size _)
            clear o8 k8 B8
            (refine hK.out _ _ (HSS.out _ H8.out.2.1) (fun hHeld => ?_); clear hK K; try simp only [Act.put, List.setIfInBounds_toArray, List.set_cons_zero, List.set_cons_succ])
            (refine rgS 12 (h := fun K hK => ?_); rw [if_pos (by rfl)])
            refine app_keep_wp (cs := iC) (w := w8) (.tmp 29) (.tmp 32) 102 106 (by rfl) Tryz.underlying102 infoIn rfl (by decide) (fun _ => rfl) wr.heap.size _ l H8.out.1 (by rfl) (w8.heap.size) _ [mkI 77, mkI 78] (by rfl) (InG.lit2 H8.out.2.2 (Array.getElem?_eq_some_iff.1 H8.out.2.2).1) (fun y _ => iC_one y) (by unfold maxLen; simp only [List.length_cons, List.length_nil]; omega) (by simp only [List.length_cons, List.length_nil]; omega) ((H8.out.2.1).size) ?_
            intro v12 w12 o12 k12
            obtain ⟨a12, c12, rfl⟩ := o12.form
            generalize hml : (l ++ [mkI 77, mkI 78]).length = ml at *
            clear hml
            have B12 : Below wr.heap.size wr w12 := (H8.out.2.1).trans (k12.below ((H8.out.2.1).size) (fun k hk e => by have := (World.ownsRow.lt H8.out.1 k e).1; omega))
            have H12 : Hid (OwG iC 106 8 w12 wr.heap.size (.slice a12 ml c12) (l ++ [mkI 77, mkI 78]) ∧ Below wr.heap.size wr w12) := ⟨o12, B12⟩
            have cT12 := HCT.out w12 B12
            have cT13 := HCT.out (w12.alloc (.cells #[.slice a12 ml c12] 102)) (B12.alloc B12.size _)
            clear o12 k12 B12 cT8 cT8L H8
            (refine hK.out _ _ (HSS.out _ H12.out.2) (fun hHeld => ?_); clear hK K; try simp only [Act.put, List.setIfInBounds_toArray, List.set_cons_zero, List.set_cons_succ])
            (refine rgS 13 (h := fun K hK => ?_); go_simp)
            (refine hK.out _ _ (HSS.out _ (H12.out.2.alloc H12.out.2.size _)) (fun hHeld => ?_); clear hK K; try simp only [Act.put, List.setIfInBounds_toArray, List.set_cons_zero, List.set_cons_succ])
          rotate_left 1
          focus
            refine app_keep_wp (cs := iC) (w := ((wr.drew.alloc (.cells litL 106)).alloc (.cells #[] 106))) (.tmp 23) (.tmp 28) 102 106 (by rfl) Tryz.underlying102 infoIn rfl (by decide) (fun _ => rfl) wr.heap.size _ [] OW.out.2.2 (by rfl) C _ l (by rfl) (HI.out _ HD.out.2.2.2.2) (fun y _ => iC_one y) (by unfold maxLen; simp only [List.length_nil]; omega) (by simp only [List.length_nil]; omega) ((HD.out.2.2.2.2).size) ?_
            intro v8 w8 o8 k8
            rw [List.nil_append] at o8
            obtain ⟨a8, c8, rfl⟩ := o8.form
            have B8 : Below wr.heap.size wr w8 := (HD.out.2.2.2.2).trans (k8.below ((HD.out.2.2.2.2).size) (fun k hk e => by have e2 : (wr.heap.size + 1) = k := Option.some.inj e; omega))
            have H8 : Hid (OwG iC 106 8 w8 wr.heap.size (.slice a8 l.length c8) l ∧ Below wr.heap.size wr w8 ∧ w8.heap[wr.heap.size]? = some (.cells litL 106)) := ⟨o8, B8, (k8.block _ (Array.getElem?_eq_some_iff.1 LB.out.2).1 (fun e => by have e2 : (wr.heap.size + 1) = wr.heap.size := Option.some.inj e; omega)).trans LB.out.2⟩
            have cT8 := HCT.out w8 B8
            have cT8L := HCT.out (w8.alloc (.cells litL 106)) (B8.alloc B8.size _)
            clear o8 k8 B8
            (refine hK.out _ _ (HSS.out _ H8.out.2.1) (fun hHeld => ?_); clear hK K; try simp only [Act.put, List.setIfInBounds_toArray, List.set_cons_zero, List.set_cons_succ])
            (refine wpAnyH_ready (rs := [1, 12]) (by kernel_rfl) (by simp) ?_; refine rgA 1 (by rfl) (fun K hK => ?_) (rgA 12 (by rfl) (fun K hK => ?_) AllReadyH.nil) <;> rw [if_pos (by rfl)])
            focus
              go_simp
              (refine hK.out _ _ (HSS.out _ H8.out.2.1) (fun hHeld => ?_); clear hK K; try simp only [Act.put, List.setIfInBounds_toArray, List.set_cons_zero, List.set_cons_succ])
              (refine rgS 12 (h := fun K hK => ?_); rw [if_pos (by rfl)])
              refine app_keep_wp (cs := iC) (w := w8) (.tmp 29) (.tmp 32) 102 106 (by rfl) Tryz.underlying102 infoIn rfl (by decide) (fun _ => rfl) wr.heap.size _ l H8.out.1 (by rfl) (w8.heap.size) _ [mkI 77, mkI 78] (by rfl) (InG.lit2 H8.out.2.2 (Array.getElem?_eq_some_iff.1 H8.out.2.2).1) (fun y _ => iC_one y) (by unfold maxLen; simp only [List.length_cons, List.length_nil]; omega) (by simp only [List.length_cons, List.length_nil]; omega) ((H8.out.2.1).size) ?_
              intro v12 w12 o12 k12
              obtain ⟨a12, c12, rfl⟩ := o12.form
              generalize hml : (l ++ [mkI 77, mkI 78]).length = ml at *
              clear hml
              have B12 : Below wr.heap.size wr w12 := (H8.out.2.1).trans (k12.below ((H8.out.2.1).size) (fun k hk e => by have := (World.ownsRow.lt H8.out.1 k e).1; omega))
              have H12 : Hid (OwG iC 106 8 w12 wr.heap.size (.slice a12 ml c12) (l ++ [mkI 77, mkI 78]) ∧ Below wr.heap.size wr w12) := ⟨o12, B12⟩
              have cT12 := HCT.out w12 B12
              have cT13 := HCT.out (w12.alloc (.cells #[.slice a12 ml c12] 102)) (B12.alloc B12.size _)
              clear o12 k12 B12 cT8 cT8L H8
              (refine hK.out _ _ (HSS.out _ H12.out.2) (fun hHeld => ?_); clear hK K; try simp only [Act.put, List.setIfInBounds_toArray, List.set_cons_zero, List.set_cons_succ])
              (refine rgS 13 (h := fun K hK => ?_); go_simp)
              (refine hK.out _ _ (HSS.out _ (H12.out.2.alloc H12.out.2.size _)) (fun hHeld => ?_); clear hK K; try simp only [Act.put, List.setIfInBounds_toArray, List.set_cons_zero, List.set_cons_succ])
            rotate_left 1
            focus
              refine app_keep_wp (cs := iC) (w := w8) (.tmp 29) (.tmp 32) 102 106 (by rfl) Tryz.underlying102 infoIn rfl (by decide) (fun _ => rfl) wr.heap.size _ l H8.out.1 (by rfl) (w8.heap.size) _ [mkI 77, mkI 78] (by rfl) (InG.lit2 H8.out.2.2 (Array.getElem?_eq_some_iff.1 H8.out.2.2).1) (fun y _ => iC_one y) (by unfold maxLen; simp only [List.length_cons, List.length_nil]; omega) (by simp only [List.length_cons, List.length_nil]; omega) ((H8.out.2.1).size) ?_
              intro v12 w12 o12 k12
              obtain ⟨a12, c12, rfl⟩ := o12.form
              generalize hml : (l ++ [mkI 77, mkI 78]).length = ml at *
              clear hml
              have B12 : Below wr.heap.size wr w12 := (H8.out.2.1).trans (k12.below ((H8.out.2.1).size) (fun k hk e => by have := (World.ownsRow.lt H8.out.1 k e).1; omega))
              have H12 : Hid (OwG iC 106 8 w12 wr.heap.size (.slice a12 ml c12) (l ++ [mkI 77, mkI 78]) ∧ Below wr.heap.size wr w12) := ⟨o12, B12⟩
              have cT12 := HCT.out w12 B12
              have cT13 := HCT.out (w12.alloc (.cells #[.slice a12 ml c12] 102)) (B12.alloc B12.size _)
              clear o12 k12 B12 cT8 cT8L H8
              (refine hK.out _ _ (HSS.out _ H12.out.2) (fun hHeld => ?_); clear hK K; try simp only [Act.put, List.setIfInBounds_toArray, List.set_cons_zero, List.set_cons_succ])
              (refine wpAnyH_ready (rs := [1, 13]) (by kernel_rfl) (by simp) ?_; refine rgA 1 (by rfl) (fun K hK => ?_) (rgA 13 (by rfl) (fun K hK => ?_) AllReadyH.nil) <;> rw [if_pos (by rfl)])
              focus
                go_simp
                (refine hK.out _ _ (HSS.out _ H12.out.2) (fun hHeld => ?_); clear hK K; try simp only [Act.put, List.setIfInBounds_toArray, List.set_cons_zero, List.set_cons_succ])
                (refine rgS 13 (h := fun K hK => ?_); go_simp)
                (refine hK.out _ _ (HSS.out _ (H12.out.2.alloc H12.out.2.size _)) (fun hHeld => ?_); clear hK K; try simp only [Act.put, List.setIfInBounds_toArray, List.set_cons_zero, List.set_cons_succ])
              rotate_left 1
              focus
                go_simp
                (refine hK.out _ _ (HSS.out _ (H12.out.2.alloc H12.out.2.size _)) (fun hHeld => ?_); clear hK K; try simp only [Act.put, List.setIfInBounds_toArray, List.set_cons_zero, List.set_cons_succ])
                (refine rgS 1 (h := fun K hK => ?_); go_simp)
                (refine hK.out _ _ (HSS.out _ (H12.out.2.alloc H12.out.2.size _)) (fun hHeld => ?_); clear hK K; try simp only [Act.put, List.setIfInBounds_toArray, List.set_cons_zero, List.set_cons_succ])
              rotate_left 1
            rotate_left 2
          rotate_left 3
        rotate_left 4
      rotate_left 5
      all_goals
        clear cT0 cTE cTL cTEL cTLE cT12 cT13
        (refine rgS 14 (h := fun K hK => ?_); rw [if_pos (by rfl)])
        refine app_one_wp (cs := slP) (wr := w12) (.tmp 22) (.tmp 34) 47 102 (by rfl) Tryz.underlying47 infoSlI rfl (by decide) (fun _ => rfl) (w.heap.size + 3) _ ps (.slice a12 ml c12, l ++ [mkI 77, mkI 78]) (HQ.out.1.ot.later H12.out.2) (by rfl) w12.heap.size rfl (by rfl) (by intro u hu; simp [slP] at hu; subst hu; rfl) _ rfl (by unfold maxLen; omega) (by omega) (by have := H12.out.2.size; omega) ?_
        intro v' w3 ho3 hb3 hk3
        obtain ⟨f3, c3, z3⟩ := HQ.out.1.step H12.out.1 H12.out.2 ho3 hb3 hk3
        have S8 := HSS.out _ H12.out.2
        have S3 : w3.cell? ⟨w.heap.size, 1, none⟩ = some (.slice (some ⟨tb, off, none⟩) ts.length tc) ∧ w3.cell? ⟨tb, off + t, none⟩ = some (.slice ia l.length icap) := ⟨(hb3.cell (p := ⟨w.heap.size, 1, none⟩) (by show w.heap.size < _; omega)).trans S8.1, (hb3.cell (p := ⟨tb, off + t, none⟩) (by show tb < _; omega)).trans S8.2⟩
        obtain ⟨a3, k3, rfl⟩ := ho3.form
        generalize (ps ++ [(Value.slice a12 ml c12, l ++ [mkI 77, mkI 78])]).length = mm at *
        have S4 : (w3.setCell ⟨w.heap.size + 2, 3, none⟩ (.slice a3 mm k3)).cell? ⟨w.heap.size, 1, none⟩ = some (.slice (some ⟨tb, off, none⟩) ts.length tc) ∧ (w3.setCell ⟨w.heap.size + 2, 3, none⟩ (.slice a3 mm k3)).cell? ⟨tb, off + t, none⟩ = some (.slice ia l.length icap) :=
          have e2 : ∀ g j, g < w.heap.size + 2 → (w3.setCell ⟨w.heap.size + 2, 3, none⟩ (.slice a3 mm k3)).cell? ⟨g, j, none⟩ = w3.cell? ⟨g, j, none⟩ := fun g j hn => World.cell?_setCell_other _ _ _ _ (fun e => by have : w.heap.size + 2 = g := congrArg Addr.block e; omega)
          ⟨(e2 _ _ (by omega)).trans S3.1, (e2 _ _ (by omega)).trans S3.2⟩
        have H3 : Hid (Ln w (w3.setCell ⟨w.heap.size + 2, 3, none⟩ (.slice a3 mm k3)) (litC ca cs.length cc (some ⟨tb, off, none⟩) ts.length tc) (.slice (some ⟨gc, 0, none⟩) nn gcap) (.slice a3 mm k3) (.slice none 0 0) cs (ps ++ [(Value.slice a12 ml c12, l ++ [mkI 77, mkI 78])]) [] ∧ (ps ++ [(Value.slice a12 ml c12, l ++ [mkI 77, mkI 78])]).map Prod.snd = (ts.take (t + 1)).map (fun l => l ++ [mkI 77, mkI 78])) := ⟨f3, by rw [List.map_append, HQ.out.2, HT.out]; simp⟩
        clear f3 ho3 hb3 hk3 S8 HQ H12 HI HT HCT OW LB HD HSS
        generalize ps ++ [(Value.slice a12 ml c12, l ++ [mkI 77, mkI 78])] = ps' at *
        (refine hK.out _ _ S3 (fun hHeld => ?_); clear hK K; try simp only [Act.put, List.setIfInBounds_toArray, List.set_cons_zero, List.set_cons_succ])
        refine rgT 15 (h := ?_)
        (refine rgS 16 (h := fun K hK => ?_); go_simp)
        (refine hK.out _ _ S4 (fun hHeld => ?_); clear hK K; try simp only [Act.put, List.setIfInBounds_toArray, List.set_cons_zero, List.set_cons_succ])
        refine wpAnyH_done (by kernel_rfl) ?_ _
        clear S3 S4 c3 z3
        go_wp2
        go_roundw
        case rel => exact ⟨t + 1, _, _, by go_num, by omega, H3.out.2, H3.out.1⟩
        case measure => simp [intOf]; omega
    · have htt : t = ts.length := by omega
      have HPS : Hid (ps.map Prod.snd = ts.map (fun l => l ++ [mkI 77, mkI 78])) := by
        show _ = _
        have := HQ.out.2
        rw [htt, List.take_length] at this
        exact this
      have hpn : ps.length = ts.length := by rw [HPL.out, htt]
      have HPN : Hid (ps.length = ts.length) := hpn
      obtain ⟨va2, vc2, hva⟩ := HQ.out.1.ot.form
      subst hva
      clear hpn htt c0
      go_wp2_with fail
      clear c1
      rename World => wq
      go_loopw [5] (fun c wr => ∃ (u : Nat) (avv : Value) (qa : List (Value × List I8)), c = .int .i64 u ∧ u ≤ ts.length ∧ qa = (ps.take u).map cutP ∧ Ln w wr (litC ca cs.length cc ta ts.length tc) (.slice (some ⟨gc, 0, none⟩) nn gcap) (.slice va2 ps.length vc2) avv cs ps qa) (fun c _ => ts.length - (intOf c).toNat)
      case atStart => exact ⟨0, _, [], rfl, by omega, rfl, HQ.out.1⟩
      case round =>
        obtain ⟨u, avv, qa, rfl, hu, hqa, hln⟩ := hrel
        have HR : Hid (Ln w wr (litC ca cs.length cc ta ts.length tc) (.slice (some ⟨gc, 0, none⟩) nn gcap) (.slice va2 ps.length vc2) avv cs ps qa ∧ qa = (ps.take u).map cutP) := ⟨hln, hqa⟩
        have hql : qa.length ≤ 1099511627776 := by rw [hqa]; simp; omega
        obtain ⟨aa, ac, hav⟩ := hln.oa.form
        subst hav
        have hsz : w.heap.size + 3 ≤ wr.heap.size := hln.lt
        obtain ⟨c0, c1, -⟩ := HBox.out wr hln.bl
        have c4 : wr.cell? ⟨w.heap.size + 2, 4, none⟩ = some (.slice aa qa.length ac) := (cell?_heap hln.lb 4).trans rfl
        clear hqa
        by_cases h6 : u < ts.length
        · have u0 : (0 : Int) ≤ (u : Int) := Int.natCast_nonneg _
          have u1 : (u : Int) < (ts.length : Int) := by omega
          have hup : u < ps.length := by rw [HPN.out]; exact h6
          have u2 : (u : Int) < (ps.length : Int) := by omega
          have lg := H.out wr hln.bl
          obtain ⟨tb, off, rfl, htb, ct⟩ := lg.t u h6
          obtain ⟨ia, icap, hiv⟩ := (lg.i u h6).form
          rw [hiv] at ct
          obtain ⟨tvb, tvc, htv, htv1, htv2⟩ := owG_some hln.ot (by intro e; rw [e] at hup; simp at hup)
          injection htv with htv _ htvc
          subst htv
          have hpu : ps[u].2 = ts[u] ++ [mkI 77, mkI 78] := by
            have h1 : (ps.map Prod.snd)[u]? = some ps[u].2 := by rw [List.getElem?_map, List.getElem?_eq_getElem hup]; rfl
            rw [HPS.out, List.getElem?_map, List.getElem?_eq_getElem h6] at h1
            exact (Option.some.inj h1).symm
          have ctv : wr.cell? ⟨tvb, u, none⟩ = some ps[u].1 := by
            have := World.ownsRow.cellAt hln.ot u (by omega)
            have e2 := flat_get slP 1 (fun _ => rfl) ps u hup 0 (by decide)
            rw [Nat.mul_one, Nat.add_zero] at e2
            rw [e2] at this
            exact this
          obtain ⟨gi, ci, hgi, -, -⟩ := owG_some (hln.oi ps[u] (List.getElem_mem hup)) (by rw [hpu]; simp)
          have hoi := hln.oi ps[u] (List.getElem_mem hup)
          rw [hgi] at hoi
          have hcap := (owG_cap hoi).2.1
          rw [hpu, List.length_append] at hcap
          have hcl : ts[u].length ≤ ci := by omega
          have HCU : Hid (cutP ps[u] = (.slice (some ⟨gi, 0, none⟩) ts[u].length ci, ts[u])) := by
            show _ = _
            unfold cutP cutV
            rw [hgi, hpu]
            simp
          have HQA : Hid ((ps.take (u + 1)).map cutP = qa ++ [cutP ps[u]]) := by
            show _ = _
            rw [List.take_succ_eq_append_getElem hup, List.map_append, HR.out.2]
            rfl
          rw [hgi] at ctv
          obtain ⟨ml, hml⟩ : ∃ ml, ps[u].2.length = ml := ⟨_, rfl⟩
          rw [hml] at ctv
          rw [HCU.out] at HQA
          have hsl : ∀ W : World, (Instr.slice 102 (.slice (some ⟨gi, 0, none⟩) ml ci) none (some (.int .i64 ((ts[u].length : Nat) : Int))) none).run Tryz.prog W = .ok (.slice (some ⟨gi, 0, none⟩) ts[u].length ci) W := fun W => slice_to W _ ml ci _ hcl
          have htb3 : tvb < wr.heap.size := htv2
          have c3 : wr.cell? ⟨w.heap.size + 2, 3, none⟩ = some (.slice (some ⟨tvb, 0, none⟩) ps.length vc2) := (cell?_heap hln.lb 3).trans rfl
          clear hiv lg hoi hcap hpu hml HCU hgi htvc
          generalize ts[u] = l at *
          have HSS : Hid (∀ W : World, Keeps (fun k => (Value.slice aa qa.length ac).ownBlock = some k) wr W → W.cell? ⟨w.heap.size, 1, none⟩ = some (.slice (some ⟨tb, off, none⟩) ts.length tc) ∧ W.cell? ⟨tb, off + u, none⟩ = some (.slice ia l.length icap) ∧ W.cell? ⟨w.heap.size + 2, 3, none⟩ = some (.slice (some ⟨tvb, 0, none⟩) ps.length vc2) ∧ W.cell? ⟨tvb, u, none⟩ = some (.slice (some ⟨gi, 0, none⟩) ml ci)) := fun W k => by
            have na : ∀ g, (Value.slice aa qa.length ac).ownBlock = some g → w.heap.size + 3 ≤ g := fun g hg => (World.ownsRow.lt hln.oa g hg).1
            exact ⟨(k.cell (p := ⟨w.heap.size, 1, none⟩) (by show w.heap.size < _; omega) (fun e => by have h1 : w.heap.size + 3 ≤ w.heap.size := na _ e; omega)).trans c1, (k.cell (p := ⟨tb, off + u, none⟩) (by show tb < _; omega) (fun e => by have h1 : w.heap.size + 3 ≤ tb := na _ e; omega)).trans ct, (k.cell (p := ⟨w.heap.size + 2, 3, none⟩) (by show w.heap.size + 2 < _; omega) (fun e => by have h1 : w.heap.size + 3 ≤ w.heap.size + 2 := na _ e; omega)).trans c3, (k.cell (p := ⟨tvb, u, none⟩) htb3 (fun e => hln.dj tvb rfl e)).trans ctv⟩
          have kD : Keeps (fun k => (Value.slice aa qa.length ac).ownBlock = some k) wr wr.drew := (Keeps.refl _ _).drew
          have kA : Keeps (fun k => (Value.slice aa qa.length ac).ownBlock = some k) wr (wr.drew.alloc (.cells #[.slice (some ⟨gi, 0, none⟩) l.length ci] 102)) := kD.alloc _
          have HKD : Hid (Keeps (fun k => (Value.slice aa qa.length ac).ownBlock = some k) wr wr.drew ∧ Keeps (fun k => (Value.slice aa qa.length ac).ownBlock = some k) wr (wr.drew.alloc (.cells #[.slice (some ⟨gi, 0, none⟩) l.length ci] 102))) := ⟨kD, kA⟩
          have c4d : wr.drew.cell? ⟨w.heap.size + 2, 4, none⟩ = some (.slice aa qa.length ac) := c4
          have c4a : (wr.alloc (.cells #[.slice (some ⟨gi, 0, none⟩) l.length ci] 102)).cell? ⟨w.heap.size + 2, 4, none⟩ = some (.slice aa qa.length ac) := (World.cell?_of_block (w := wr) (Below.heap_alloc wr _ (w.heap.size + 2) (by omega))).trans c4
          have HOA : Hid (OwG slP 102 1 wr.drew 0 (.slice aa qa.length ac) qa) := (hln.oa.later (Below.refl _ _).drew).down (Nat.zero_le _)
          clear kD kA hln c4 c3 ctv ct c0
          go_wp2_with fail
          (refine wp_region_held_drew (S := (fun W => W.cell? ⟨w.heap.size, 1, none⟩ = some (.slice (some ⟨tb, off, none⟩) ts.length tc) ∧ W.cell? ⟨tb, off + u, none⟩ = some (.slice ia l.length icap) ∧ W.cell? ⟨w.heap.size + 2, 3, none⟩ = some (.slice (some ⟨tvb, 0, none⟩) ps.length vc2) ∧ W.cell? ⟨tvb, u, none⟩ = some (.slice (some ⟨gi, 0, none⟩) ml ci))) (by kernel_rfl) (HSS.out _ HKD.out.1) (fun hHeld => ?_); simp only [List.size_toArray, List.length_cons, List.length_nil, Nat.reduceAdd, Array.replicate_succ, Array.replicate_zero, List.push_toArray, List.append_toArray, List.nil_append, List.cons_append])
          clear c1
          refine rgT 0 (h := ?_)
          refine rgT 2 (h := ?_)
          refine rgT 3 (h := ?_)
          refine rgT 4 (h := ?_)
          refine rgT 5 (h := ?_)
          refine rgT 6 (h := ?_)
          refine rgT 7 (h := ?_)
          refine rgT 8 (h := ?_)
          refine rgT 9 (h := ?_)
          refine rgT 10 (h := ?_)
          refine rgT 11 (h := ?_)
          refine rgT 12 (h := ?_)
          refine rgT 13 (h := ?_)
          (refine wpAnyH_ready (rs := [1, 14]) (by kernel_rfl) (by simp) ?_; refine rgA 1 (by rfl) (fun K hK => ?_) (rgA 14 (by rfl) (fun K hK => ?_) AllReadyH.nil) <;> go_simp)
          (refine hK.out _ _ (HSS.out _ HKD.out.1) (fun hHeld => ?_); clear hK K; try simp only [Act.put, List.setIfInBounds_toArray, List.set_cons_zero, List.set_cons_succ])
          (refine rgS 14 (h := fun K hK => ?_); go_simp)
          (refine hK.out _ _ (HSS.out _ HKD.out.2) (fun hHeld => ?_); clear hK K; try simp only [Act.put, List.setIfInBounds_toArray, List.set_cons_zero, List.set_cons_succ])
          rotate_left 1
          (refine hK.out _ _ (HSS.out _ HKD.out.2) (fun hHeld => ?_); clear hK K; try simp only [Act.put, List.setIfInBounds_toArray, List.set_cons_zero, List.set_cons_succ])
          (refine rgS 1 (h := fun K hK => ?_); go_simp)
          (refine hK.out _ _ (HSS.out _ HKD.out.2) (fun hHeld => ?_); clear hK K; try simp only [Act.put, List.setIfInBounds_toArray, List.set_cons_zero, List.set_cons_succ])
          all_goals
            clear c4d c4a
            (refine rgS 15 (h := fun K hK => ?_); rw [if_pos (by rfl)])
            refine app_lies_wp (cs := slP) (wr := wr.drew) (.tmp 45) (.tmp 58) 47 102 (by rfl) Tryz.underlying47 infoSlI rfl (by decide) (fun _ => rfl) _ qa (.slice (some ⟨gi, 0, none⟩) l.length ci, l) HOA.out (by rfl) wr.heap.size rfl (by rfl) (by intro u hu; simp [slP] at hu; subst hu; rfl) _ rfl (by unfold maxLen; omega) (by omega) ?_
            intro b5 k5 w5 ho5 hk5 hb5 hl5
            rw [← HQA.out] at ho5
            have hk6 : Keeps (fun k => (Value.slice aa qa.length ac).ownBlock = some k) wr w5 := HKD.out.1.trans hk5
            obtain ⟨f5, q5, z5⟩ := HR.out.1.more ho5 hk6 hb5
            have S5 := HSS.out w5 hk6
            have HN : Hid (Ln w (w5.setCell ⟨w.heap.size + 2, 4, none⟩ (.slice (some ⟨b5, 0, none⟩) (qa.length + 1) k5)) (litC ca cs.length cc (some ⟨tb, off, none⟩) ts.length tc) (.slice (some ⟨gc, 0, none⟩) nn gcap) (.slice (some ⟨tvb, 0, none⟩) ps.length vc2) (.slice (some ⟨b5, 0, none⟩) (qa.length + 1) k5) cs ps ((ps.take (u + 1)).map cutP)) := f5
            have S6 : (w5.setCell ⟨w.heap.size + 2, 4, none⟩ (.slice (some ⟨b5, 0, none⟩) (qa.length + 1) k5)).cell? ⟨w.heap.size, 1, none⟩ = some (.slice (some ⟨tb, off, none⟩) ts.length tc) ∧ (w5.setCell ⟨w.heap.size + 2, 4, none⟩ (.slice (some ⟨b5, 0, none⟩) (qa.length + 1) k5)).cell? ⟨tb, off + u, none⟩ = some (.slice ia l.length icap) ∧ (w5.setCell ⟨w.heap.size + 2, 4, none⟩ (.slice (some ⟨b5, 0, none⟩) (qa.length + 1) k5)).cell? ⟨w.heap.size + 2, 3, none⟩ = some (.slice (some ⟨tvb, 0, none⟩) ps.length vc2) ∧ (w5.setCell ⟨w.heap.size + 2, 4, none⟩ (.slice (some ⟨b5, 0, none⟩) (qa.length + 1) k5)).cell? ⟨tvb, u, none⟩ = some (.slice (some ⟨gi, 0, none⟩) ml ci) :=
              have e2 : ∀ g j, (g ≠ w.heap.size + 2 ∨ j ≠ 4) → (w5.setCell ⟨w.heap.size + 2, 4, none⟩ (.slice (some ⟨b5, 0, none⟩) (qa.length + 1) k5)).cell? ⟨g, j, none⟩ = w5.cell? ⟨g, j, none⟩ := fun g j hn => World.cell?_setCell_other _ _ _ _ (fun e => hn.elim (fun hn => hn (congrArg Addr.block e).symm) (fun hn => hn (congrArg Addr.off e).symm))
              ⟨(e2 _ _ (.inl (by omega))).trans S5.1, (e2 _ _ (.inl (by omega))).trans S5.2.1, (e2 _ _ (.inr (by decide))).trans S5.2.2.1, (e2 _ _ (.inl (by omega))).trans S5.2.2.2⟩
            clear f5 ho5 hk5 hk6 hb5 hl5 HR HOA HKD HSS
            generalize qa.length + 1 = mq at *
            (refine hK.out _ _ S5 (fun hHeld => ?_); clear hK K; try simp only [Act.put, List.setIfInBounds_toArray, List.set_cons_zero, List.set_cons_succ])
            refine rgT 16 (h := ?_)
            (refine rgS 17 (h := fun K hK => ?_); go_simp)
            (refine hK.out _ _ S6 (fun hHeld => ?_); clear hK K; try simp only [Act.put, List.setIfInBounds_toArray, List.set_cons_zero, List.set_cons_succ])
            refine wpAnyH_done (by kernel_rfl) ?_ _
            clear S5 S6 q5 z5
            go_wp2
            go_roundw
            case rel => exact ⟨u + 1, _, _, by go_num, by omega, rfl, HN.out⟩
            case measure => simp [intOf]; omega
        · have hup : u = ts.length := by omega
          have HQF : Hid (qa = ps.map cutP) := by
            show _ = _
            rw [HR.out.2, hup, ← HPN.out, List.take_length]
          have bA : Below wr.heap.size wr (wr.alloc (.cells i79 106)) := (Below.refl _ _).alloc (Nat.le_refl _) _
          have lA := hln.later bA
          have HLA : Hid (Ln w (wr.alloc (.cells i79 106)) (litC ca cs.length cc ta ts.length tc) (.slice (some ⟨gc, 0, none⟩) nn gcap) (.slice va2 ps.length vc2) (.slice aa qa.length ac) cs ps qa ∧ OwG slP 102 1 (wr.alloc (.cells i79 106)) 0 (.slice aa qa.length ac) qa ∧ OwG iC 106 8 (wr.alloc (.cells i79 106)) (w.heap.size + 3) (.slice (some ⟨wr.heap.size, 0, none⟩) 1 1) [mkI 79]) := ⟨lA, lA.oa.down (Nat.zero_le _), own79 wr _ hsz⟩
          clear hln lA bA hup c0
          go_wp2_with (at_builtin; refine hideG ?_)
          change wpList _ _ _ _ _ _
          refine app_lies (cs := slP) (wr := wr.alloc (.cells i79 106)) (by rfl) _ _ 47 102 (by rfl) Tryz.underlying47 infoSlI rfl (by decide) (fun _ => rfl) _ qa (.slice (some ⟨wr.heap.size, 0, none⟩) 1 1, [mkI 79]) HLA.out.2.1 (by rfl) (wr.heap.size + 1) (by rw [szAl]) (by rfl) (by intro u hu; simp [slP] at hu; subst hu; rfl) _ rfl (by unfold maxLen; omega) (by omega) ?_
          intro b5 k5 w5 ho5 hk5 hb5 hl5
          obtain ⟨f5, q5, z5⟩ := HLA.out.1.more ho5 hk5 hb5
          have n9 : ∀ g, (Value.slice (some ⟨wr.heap.size, 0, none⟩) 1 1).ownBlock = some g → (Value.slice aa qa.length ac).ownBlock = some g → False := fun g h1 h2 => by
            obtain ⟨x1, e1⟩ := blk HLA.out.2.2 h1
            obtain ⟨x2, e2⟩ := blk HLA.out.1.oa h2
            exact neT e1 e2 (by decide) rfl
          have o9 : OwG iC 106 8 (w5.setCell ⟨w.heap.size + 2, 4, none⟩ (.slice (some ⟨b5, 0, none⟩) (qa.length + 1) k5)) (w.heap.size + 3) (.slice (some ⟨wr.heap.size, 0, none⟩) 1 1) [mkI 79] := (owK HLA.out.2.2 hk5 (fun g h1 h2 => n9 g h1 h2)).set (p := ⟨w.heap.size + 2, 4, none⟩) (by show w.heap.size + 2 < _; omega) _
          have HN : Hid (Ln w (w5.setCell ⟨w.heap.size + 2, 4, none⟩ (.slice (some ⟨b5, 0, none⟩) (qa.length + 1) k5)) (litC ca cs.length cc ta ts.length tc) (.slice (some ⟨gc, 0, none⟩) nn gcap) (.slice va2 ps.length vc2) (.slice (some ⟨b5, 0, none⟩) (qa.length + 1) k5) cs ps (qa ++ [(.slice (some ⟨wr.heap.size, 0, none⟩) 1 1, [mkI 79])]) ∧ OwG iC 106 8 (w5.setCell ⟨w.heap.size + 2, 4, none⟩ (.slice (some ⟨b5, 0, none⟩) (qa.length + 1) k5)) (w.heap.size + 3) (.slice (some ⟨wr.heap.size, 0, none⟩) 1 1) [mkI 79] ∧ ∀ p ∈ ps, ∀ x y, p.1.ownBlock = some x → (Value.slice (some ⟨wr.heap.size, 0, none⟩) 1 1).ownBlock = some y → x < y) := ⟨f5, o9, fun p hp x y h1 h2 => by have := (World.ownsRow.lt (HR.out.1.oi p hp) x h1).2; have e : wr.heap.size = y := Option.some.inj h2; omega⟩
          clear f5 o9 n9 ho5 hk5 hb5 hl5 HLA
          clear c1 c4
          go_wp2_with fail
          clear q5 z5
          generalize w5.setCell ⟨w.heap.size + 2, 4, none⟩ (.slice (some ⟨b5, 0, none⟩) (qa.length + 1) k5) = w6 at *
          generalize (Value.slice (some ⟨wr.heap.size, 0, none⟩) 1 1) = v79 at *
          obtain ⟨x0, x1, er⟩ := HBox.out w6 HN.out.1.bl
          have e6 := HN.out.1.lb
          have x2 : w6.cell? ⟨w.heap.size + 2, 2, none⟩ = some (.slice (some ⟨gc, 0, none⟩) nn gcap) := (cell?_heap e6 2).trans rfl
          have x4 : w6.cell? ⟨w.heap.size + 2, 4, none⟩ = some (.slice (some ⟨b5, 0, none⟩) (qa.length + 1) k5) := (cell?_heap e6 4).trans rfl
          have y0 : w6.cell? ⟨w.heap.size + 2, 0, none⟩ = some (.slice none 0 0) := (cell?_heap e6 0).trans rfl
          have y1 : w6.cell? ⟨w.heap.size + 2, 1, none⟩ = some (.slice none 0 0) := (cell?_heap e6 1).trans rfl
          have f0 := frozen?_heap e6 0
          have f1 := frozen?_heap e6 1
          have hc1 : cs.length ≤ gcap := by have := (owG_cap HN.out.1.oc).2.1; rw [List.length_append] at this; omega
          have hqn : qa.length = ts.length := by rw [HQF.out, List.length_map, HPN.out]
          have hc2 : ts.length ≤ k5 := by have := (owG_cap HN.out.1.oa).2.1; rw [List.length_append] at this; omega
          have hs1 : ∀ W : World, (Instr.slice 46 (.slice (some ⟨gc, 0, none⟩) nn gcap) none (some (.int .i64 ((cs.length : Nat) : Int))) none).run Tryz.prog W = .ok (.slice (some ⟨gc, 0, none⟩) cs.length gcap) W := fun W => slice_toW W _ nn gcap _ hc1
          have hs2 : ∀ W : World, (Instr.slice 47 (.slice (some ⟨b5, 0, none⟩) (qa.length + 1) k5) none (some (.int .i64 ((ts.length : Nat) : Int))) none).run Tryz.prog W = .ok (.slice (some ⟨b5, 0, none⟩) ts.length k5) W := fun W => slice_toR W _ (qa.length + 1) k5 _ hc2
          have HQN : Hid (qa.length = ts.length) := hqn
          clear hqn hc1 hc2
          generalize hmq : qa.length + 1 = mq at *
          have HMQ : Hid (qa.length + 1 = mq) := hmq
          clear hmq
          have y0d : w6.drew.cell? ⟨w.heap.size + 2, 0, none⟩ = some (.slice none 0 0) := y0
          have y1d : w6.drew.cell? ⟨w.heap.size + 2, 1, none⟩ = some (.slice none 0 0) := y1
          have f0d : w6.drew.frozen? ⟨w.heap.size + 2, 0, none⟩ = false := f0
          have f1d : w6.drew.frozen? ⟨w.heap.size + 2, 1, none⟩ = false := f1
          have e7a : (w6.setCell ⟨w.heap.size + 2, 0, none⟩ (.slice (some ⟨gc, 0, none⟩) cs.length gcap)).heap[w.heap.size + 2]? = some (.cells (lnB (.slice (some ⟨gc, 0, none⟩) cs.length gcap) (.slice none 0 0) (.slice (some ⟨gc, 0, none⟩) nn gcap) (.slice va2 ps.length vc2) (.slice (some ⟨b5, 0, none⟩) mq k5)) 53) := heapSet e6 _
          have e7 : ((w6.setCell ⟨w.heap.size + 2, 0, none⟩ (.slice (some ⟨gc, 0, none⟩) cs.length gcap)).setCell ⟨w.heap.size + 2, 1, none⟩ (.slice (some ⟨b5, 0, none⟩) ts.length k5)).heap[w.heap.size + 2]? = some (.cells (lnB (.slice (some ⟨gc, 0, none⟩) cs.length gcap) (.slice (some ⟨b5, 0, none⟩) ts.length k5) (.slice (some ⟨gc, 0, none⟩) nn gcap) (.slice va2 ps.length vc2) (.slice (some ⟨b5, 0, none⟩) mq k5)) 53) := heapSet e7a _
          have ks7 : Keeps (fun x => x = w.heap.size + 2) w6 ((w6.setCell ⟨w.heap.size + 2, 0, none⟩ (.slice (some ⟨gc, 0, none⟩) cs.length gcap)).setCell ⟨w.heap.size + 2, 1, none⟩ (.slice (some ⟨b5, 0, none⟩) ts.length k5)) := Keeps.setCell (B := fun x => x = w.heap.size + 2) (Keeps.setCell (B := fun x => x = w.heap.size + 2) (Keeps.refl _ _) rfl _) rfl _
          have hs6 := HN.out.1.lt
          have S7 : ((w6.setCell ⟨w.heap.size + 2, 0, none⟩ (.slice (some ⟨gc, 0, none⟩) cs.length gcap)).setCell ⟨w.heap.size + 2, 1, none⟩ (.slice (some ⟨b5, 0, none⟩) ts.length k5)).cell? ⟨w.heap.size, 0, none⟩ = some (.slice ca cs.length cc) ∧ ((w6.setCell ⟨w.heap.size + 2, 0, none⟩ (.slice (some ⟨gc, 0, none⟩) cs.length gcap)).setCell ⟨w.heap.size + 2, 1, none⟩ (.slice (some ⟨b5, 0, none⟩) ts.length k5)).cell? ⟨w.heap.size, 1, none⟩ = some (.slice ta ts.length tc) ∧ ((w6.setCell ⟨w.heap.size + 2, 0, none⟩ (.slice (some ⟨gc, 0, none⟩) cs.length gcap)).setCell ⟨w.heap.size + 2, 1, none⟩ (.slice (some ⟨b5, 0, none⟩) ts.length k5)).cell? ⟨w.heap.size + 2, 2, none⟩ = some (.slice (some ⟨gc, 0, none⟩) nn gcap) ∧ ((w6.setCell ⟨w.heap.size + 2, 0, none⟩ (.slice (some ⟨gc, 0, none⟩) cs.length gcap)).setCell ⟨w.heap.size + 2, 1, none⟩ (.slice (some ⟨b5, 0, none⟩) ts.length k5)).cell? ⟨w.heap.size + 2, 4, none⟩ = some (.slice (some ⟨b5, 0, none⟩) mq k5) := ⟨(ks7.cell (p := ⟨w.heap.size, 0, none⟩) (by show w.heap.size < _; omega) (by show ¬ w.heap.size = _; omega)).trans x0, (ks7.cell (p := ⟨w.heap.size, 1, none⟩) (by show w.heap.size < _; omega) (by show ¬ w.heap.size = _; omega)).trans x1, (cell?_heap e7 2).trans rfl, (cell?_heap e7 4).trans rfl⟩
          have HK7 : Hid (Keeps (fun x => x = w.heap.size + 2) w6 ((w6.setCell ⟨w.heap.size + 2, 0, none⟩ (.slice (some ⟨gc, 0, none⟩) cs.length gcap)).setCell ⟨w.heap.size + 2, 1, none⟩ (.slice (some ⟨b5, 0, none⟩) ts.length k5))) := ks7
          clear ks7 e7a
          (refine wp_region_held_drew (S := (fun W => W.cell? ⟨w.heap.size, 0, none⟩ = some (.slice ca cs.length cc) ∧ W.cell? ⟨w.heap.size, 1, none⟩ = some (.slice ta ts.length tc) ∧ W.cell? ⟨w.heap.size + 2, 2, none⟩ = some (.slice (some ⟨gc, 0, none⟩) nn gcap) ∧ W.cell? ⟨w.heap.size + 2, 4, none⟩ = some (.slice (some ⟨b5, 0, none⟩) mq k5))) (by kernel_rfl) ⟨x0, x1, x2, x4⟩ (fun hHeld => ?_); simp only [List.size_toArray, List.length_cons, List.length_nil, Nat.reduceAdd, Array.replicate_succ, Array.replicate_zero, List.push_toArray, List.append_toArray, List.nil_append, List.cons_append])
          refine rgT 0 (h := ?_)
          refine rgT 1 (h := ?_)
          refine rgT 2 (h := ?_)
          refine rgT 3 (h := ?_)
          refine rgT 4 (h := ?_)
          refine rgT 5 (h := ?_)
          refine rgT 6 (h := ?_)
          refine rgT 7 (h := ?_)
          refine rgT 8 (h := ?_)
          refine rgT 9 (h := ?_)
          refine rgT 10 (h := ?_)
          refine rgT 11 (h := ?_)
          refine rgT 12 (h := ?_)
          refine rgT 13 (h := ?_)
          (refine rgS 14 (h := fun K hK => ?_); go_simp)
          (refine hK.out _ _ S7 (fun hHeld => ?_); clear hK K; try simp only [Act.put, List.setIfInBounds_toArray, List.set_cons_zero, List.set_cons_succ])
          refine wpAnyH_done (by kernel_rfl) ?_ _
          generalize h7 : ((w6.setCell ⟨w.heap.size + 1 + 1, 0, none⟩ (.slice (some ⟨gc, 0, none⟩) cs.length gcap)).setCell ⟨w.heap.size + 1 + 1, 1, none⟩ (.slice (some ⟨b5, 0, none⟩) ts.length k5)).drew = w7
          have e8 : w7.heap[w.heap.size + 2]? = some (.cells (lnB (.slice (some ⟨gc, 0, none⟩) cs.length gcap) (.slice (some ⟨b5, 0, none⟩) ts.length k5) (.slice (some ⟨gc, 0, none⟩) nn gcap) (.slice va2 ps.length vc2) (.slice (some ⟨b5, 0, none⟩) mq k5)) 53) := by rw [← h7]; exact e7
          have k7 : Keeps (fun x => x = w.heap.size + 2) w6 w7 := by rw [← h7]; exact HK7.out.drew
          have er7 : w7.heap[w.heap.size + 1]? = some (.cells (lnB (.slice none 0 0) (.slice none 0 0) (.slice none 0 0) (.slice none 0 0) (.slice none 0 0)) 53) := (k7.block _ (by omega) (by omega)).trans er
          have d0 : w7.cell? ⟨w.heap.size + 2, 0, none⟩ = some (.slice (some ⟨gc, 0, none⟩) cs.length gcap) := (cell?_heap e8 0).trans rfl
          have d1 : w7.cell? ⟨w.heap.size + 2, 1, none⟩ = some (.slice (some ⟨b5, 0, none⟩) ts.length k5) := (cell?_heap e8 1).trans rfl
          have d2 : w7.cell? ⟨w.heap.size + 2, 2, none⟩ = some (.slice (some ⟨gc, 0, none⟩) nn gcap) := (cell?_heap e8 2).trans rfl
          have d3 : w7.cell? ⟨w.heap.size + 2, 3, none⟩ = some (.slice va2 ps.length vc2) := (cell?_heap e8 3).trans rfl
          have d4 : w7.cell? ⟨w.heap.size + 2, 4, none⟩ = some (.slice (some ⟨b5, 0, none⟩) mq k5) := (cell?_heap e8 4).trans rfl
          have r0 := (cell?_heap er7 0).trans rfl
          have r1 := (cell?_heap er7 1).trans rfl
          have r2 := (cell?_heap er7 2).trans rfl
          have r3 := (cell?_heap er7 3).trans rfl
          have r4 := (cell?_heap er7 4).trans rfl
          have q0 := frozen?_heap er7 0
          have q1 := frozen?_heap er7 1
          have q2 := frozen?_heap er7 2
          have q3 := frozen?_heap er7 3
          have q4 := frozen?_heap er7 4
          have g1 := heapSet (j := 0) er7 (.slice (some ⟨gc, 0, none⟩) cs.length gcap)
          have g2 := heapSet (j := 1) g1 (.slice (some ⟨b5, 0, none⟩) ts.length k5)
          have g3 := heapSet (j := 2) g2 (.slice (some ⟨gc, 0, none⟩) nn gcap)
          have g4 := heapSet (j := 3) g3 (.slice va2 ps.length vc2)
          have g5 := heapSet (j := 4) g4 (.slice (some ⟨b5, 0, none⟩) mq k5)
          have z1 : (((((w7.setCell ⟨w.heap.size + 1, 0, none⟩ (.slice (some ⟨gc, 0, none⟩) cs.length gcap)).setCell ⟨w.heap.size + 1, 1, none⟩ (.slice (some ⟨b5, 0, none⟩) ts.length k5)).setCell ⟨w.heap.size + 1, 2, none⟩ (.slice (some ⟨gc, 0, none⟩) nn gcap)).setCell ⟨w.heap.size + 1, 3, none⟩ (.slice va2 ps.length vc2)).setCell ⟨w.heap.size + 1, 4, none⟩ (.slice (some ⟨b5, 0, none⟩) mq k5)).heap[w.heap.size + 1]? = some (.cells (lnB (.slice (some ⟨gc, 0, none⟩) cs.length gcap) (.slice (some ⟨b5, 0, none⟩) ts.length k5) (.slice (some ⟨gc, 0, none⟩) nn gcap) (.slice va2 ps.length vc2) (.slice (some ⟨b5, 0, none⟩) mq k5)) 53) := g5
          have k8 : Keeps (fun x => x = w.heap.size + 1 ∨ x = w.heap.size + 2) w6 (((((w7.setCell ⟨w.heap.size + 1, 0, none⟩ (.slice (some ⟨gc, 0, none⟩) cs.length gcap)).setCell ⟨w.heap.size + 1, 1, none⟩ (.slice (some ⟨b5, 0, none⟩) ts.length k5)).setCell ⟨w.heap.size + 1, 2, none⟩ (.slice (some ⟨gc, 0, none⟩) nn gcap)).setCell ⟨w.heap.size + 1, 3, none⟩ (.slice va2 ps.length vc2)).setCell ⟨w.heap.size + 1, 4, none⟩ (.slice (some ⟨b5, 0, none⟩) mq k5)) := Keeps.setCell (B := fun x => x = w.heap.size + 1 ∨ x = w.heap.size + 2) (Keeps.setCell (B := fun x => x = w.heap.size + 1 ∨ x = w.heap.size + 2) (Keeps.setCell (B := fun x => x = w.heap.size + 1 ∨ x = w.heap.size + 2) (Keeps.setCell (B := fun x => x = w.heap.size + 1 ∨ x = w.heap.size + 2) (Keeps.setCell (B := fun x => x = w.heap.size + 1 ∨ x = w.heap.size + 2) (k7.mono (fun x e => .inr e)) (.inl rfl) _) (.inl rfl) _) (.inl rfl) _) (.inl rfl) _) (.inl rfl) _
          have HX : Hid (Lt (((((w7.setCell ⟨w.heap.size + 1, 0, none⟩ (.slice (some ⟨gc, 0, none⟩) cs.length gcap)).setCell ⟨w.heap.size + 1, 1, none⟩ (.slice (some ⟨b5, 0, none⟩) ts.length k5)).setCell ⟨w.heap.size + 1, 2, none⟩ (.slice (some ⟨gc, 0, none⟩) nn gcap)).setCell ⟨w.heap.size + 1, 3, none⟩ (.slice va2 ps.length vc2)).setCell ⟨w.heap.size + 1, 4, none⟩ (.slice (some ⟨b5, 0, none⟩) mq k5)) (w.heap.size + 3) cs ts gc gcap (.slice va2 ps.length vc2) b5 k5 ps v79 ∧ Below w.heap.size w (((((w7.setCell ⟨w.heap.size + 1, 0, none⟩ (.slice (some ⟨gc, 0, none⟩) cs.length gcap)).setCell ⟨w.heap.size + 1, 1, none⟩ (.slice (some ⟨b5, 0, none⟩) ts.length k5)).setCell ⟨w.heap.size + 1, 2, none⟩ (.slice (some ⟨gc, 0, none⟩) nn gcap)).setCell ⟨w.heap.size + 1, 3, none⟩ (.slice va2 ps.length vc2)).setCell ⟨w.heap.size + 1, 4, none⟩ (.slice (some ⟨b5, 0, none⟩) mq k5)) ∧ nn = cs.length + 2 ∧ mq = ts.length + 1) := by
            have ap : ∀ {α : Type} {f : α → List Value} {e : TypeId} {n : Nat} {v : Value} {xs : List α}, OwG f e n w6 (w.heap.size + 3) v xs → OwG f e n (((((w7.setCell ⟨w.heap.size + 1, 0, none⟩ (.slice (some ⟨gc, 0, none⟩) cs.length gcap)).setCell ⟨w.heap.size + 1, 1, none⟩ (.slice (some ⟨b5, 0, none⟩) ts.length k5)).setCell ⟨w.heap.size + 1, 2, none⟩ (.slice (some ⟨gc, 0, none⟩) nn gcap)).setCell ⟨w.heap.size + 1, 3, none⟩ (.slice va2 ps.length vc2)).setCell ⟨w.heap.size + 1, 4, none⟩ (.slice (some ⟨b5, 0, none⟩) mq k5)) (w.heap.size + 3) v xs := fun ho => owK ho k8 (fun g hg e => by have := (World.ownsRow.lt ho g hg).1; omega)
            have hn1 : nn = cs.length + 2 := by rw [← HNN.out, List.length_append]; rfl
            have hm1 : mq = ts.length + 1 := by rw [← HMQ.out, HQN.out]
            have oc := ap HN.out.1.oc
            have oa := ap HN.out.1.oa
            rw [hn1] at oc
            rw [hm1, HQF.out] at oa
            refine ⟨⟨?_, ap HN.out.1.ot, ?_, fun p hp => ap (HN.out.1.oi p hp), ap HN.out.2.1, HN.out.1.inc, HPS.out, HN.out.2.2⟩, ?_, hn1, hm1⟩
            · rw [hn1, hm1] at *
              exact oc
            · rw [hn1, hm1] at *
              exact oa
            · exact (HK0.out.1.trans (HN.out.1.bl.mono (by omega))).trans (k8.below (by omega) (fun x hx e => by omega))
          clear e8 k7 er7 g1 g2 g3 g4 g5 k8 h7 e7 S7 HK7 HN x0 x1 x2 x4 y0 y1 y0d y1d f0 f1 f0d f1d hs1 hs2 er e6
          go_wp2
          refine bodyPost_ret (results_cell_row rfl _ _ (w.heap.size + 1) _ _ (0, 0) _ (by rfl) z1 Tryz.underlying53 rfl (by kernel_rfl)) rfl ⟨gc, gcap, .slice va2 ps.length vc2, b5, k5, ps, v79, ?_, HX.out.1, HX.out.2.1⟩
          rw [HX.out.2.2.1, HX.out.2.2.2]
end Go.Proofs.YtdpebhdjcgiboaaGreat

namespace Go.Proofs.YtdpebhdjcgiboaaGreat
open Go.ChangeShapes Go.WideShapes Go.ChangeAt Go.RowKit Go.MuLone Go.RwLone
set_option linter.unusedVariables false
set_option maxRecDepth 100000
set_option maxHeartbeats 6400000
/-- A word turned. -/
def flipW (x : Int) : Int := bits BinOp.xor IntKind.u64 (if IntKind.u64.signed = true then -1 else IntKind.u64.max) x
theorem OwG.pre {α : Type} {cs : α → List Value} {e : TypeId} {n : Nat} {w : World} {B g m c : Nat} {xs ys : List α} (h : OwG cs e n w B (.slice (some ⟨g, 0, none⟩) m c) (xs ++ ys)) : InG cs w w.heap.size (.slice (some ⟨g, 0, none⟩) xs.length c) xs := by
  obtain ⟨ao, cap, e1, h1, h2, h3⟩ := h.in
  injection e1 with e1 e2 e3
  subst e1 e3
  refine ⟨_, _, rfl, by rw [List.length_append] at h1; omega, (fun e => by cases e), fun j u hj => h3 j u ?_⟩
  rw [List.flatMap_append, List.getElem?_append_left (List.getElem?_eq_some_iff.1 hj).1]
  exact hj
/-- What was lent is a program in sight. -/
theorem Lt.lit {w : World} {B : Nat} {cs : List Int} {ts : List (List I8)} {gc gcap : Nat} {tvv : Value} {ab acap : Nat} {ps : List (Value × List I8)} {v79 : Value} (h : Lt w B cs ts gc gcap tvv ab acap ps v79) (l1 : cs.length ≤ 140737488355328) (l2 : ts.length ≤ 140737488355328) (l3 : ∀ i (hi : i < ts.length), ts[i].length ≤ 140737488355328) : ∃ tv, LitG w w.heap.size (some ⟨gc, 0, none⟩) gcap (some ⟨ab, 0, none⟩) acap tv cs ts := by
  have hpl : ps.length = ts.length := by have := congrArg List.length h.pl; simpa using this
  have hts : (ps.map cutP).map Prod.snd = ts := by
    have : (ps.map cutP).map Prod.snd = (ps.map Prod.snd).map (fun l => l.take (l.length - 2)) := by rw [List.map_map, List.map_map]; rfl
    rw [this, h.pl, List.map_map]
    have : ∀ l : List I8, ((fun l : List I8 => l.take (l.length - 2)) ∘ (fun l => l ++ [mkI 77, mkI 78])) l = l := fun l => by simp
    rw [show ((fun l : List I8 => l.take (l.length - 2)) ∘ (fun l => l ++ [mkI 77, mkI 78])) = id from funext this]
    simp
  have hoa := h.oa
  have ht : InG slP w w.heap.size (.slice (some ⟨ab, 0, none⟩) (ps.map cutP).length acap) (ps.map cutP) := hoa.pre
  refine LitG.of (ps.map cutP) h.oc.pre ht (fun p hp => ?_) hts l1 l2 l3
  obtain ⟨q, hq, rfl⟩ := List.mem_map.1 hp
  have hq2 : q.2 ∈ ps.map Prod.snd := List.mem_map.2 ⟨q, hq, rfl⟩
  rw [h.pl] at hq2
  obtain ⟨l, _, e⟩ := List.mem_map.1 hq2
  have ho := h.oi q hq
  rw [← e] at ho
  obtain ⟨g, c, e2, _, _⟩ := owG_some ho (by simp)
  rw [e2] at ho
  have hp := ho.pre
  have ec : cutP q = (.slice (some ⟨g, 0, none⟩) l.length c, l) := by
    unfold cutP cutV
    rw [e2, ← e]
    simp
  rw [ec]
  exact hp
theorem Lt.later {w w' : World} {B : Nat} {cs : List Int} {ts : List (List I8)} {gc gcap : Nat} {tvv : Value} {ab acap : Nat} {ps : List (Value × List I8)} {v79 : Value} (h : Lt w B cs ts gc gcap tvv ab acap ps v79) (k : Below w.heap.size w w') : Lt w' B cs ts gc gcap tvv ab acap ps v79 :=
  ⟨h.oc.later k, h.ot.later k, h.oa.later k, fun p hp => (h.oi p hp).later k, h.o9.later k, h.inc, h.pl, h.n9⟩
end Go.Proofs.YtdpebhdjcgiboaaGreat
