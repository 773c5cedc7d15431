import Derived.Test.YtjceellpmopnkaaDoorMg2
import Derived.Maps.AppendAt
namespace Go.Proofs.YtjceellpmopnkaaDoor
open Go.ChangeShapes Go.WideShapes Go.ChangeAt Go.RowKit Go.Maps
set_option linter.unusedVariables false
set_option maxRecDepth 100000
theorem setCellP {w : World} {b j : Nat} {c : Array Value} {t : TypeId} {fz : Nat × Nat} (v : Value) (h : w.heap[b]? = some (.cells c t fz)) : (w.setCell ⟨b, j, none⟩ v).heap[b]? = some (.cells (c.setIfInBounds j v) t fz) := by
  have hb : b < w.heap.size := (Array.getElem?_eq_some_iff.1 h).1
  have he := (Array.getElem?_eq_some_iff.1 h).2
  show (w.heap.modify b _)[b]? = _
  rw [Array.getElem?_modify]
  simp [he, hb]
theorem ownsRow_setP {w : World} {B : Nat} {e : TypeId} {size g n cap : Nat} {xs : List Value} (h : w.ownsRow B e size (.slice (some ⟨g, 0, none⟩) n cap) n xs) (j : Nat) (x : Value) : (w.setCell ⟨g, j, none⟩ x).ownsRow B e size (.slice (some ⟨g, 0, none⟩) n cap) n (xs.set j x) := by
  obtain ⟨hl, h2⟩ := h
  rcases h2 with ⟨h', _⟩ | ⟨g', cap', cur, h', hb, hg, hnc, hm, hs, ht⟩
  · simp at h'
  · simp only [Value.slice.injEq, Option.some.injEq, Addr.mk.injEq, and_true] at h'
    obtain ⟨rfl, _, rfl⟩ := h'
    refine ⟨by rw [List.length_set]; exact hl, .inr ⟨g, cap, _, rfl, hb, setCellP x hg, hnc, hm, by simpa using hs, ?_⟩⟩
    rw [Array.toList_setIfInBounds, List.take_set, ht]
theorem cellsP_set : ∀ (ms : List PN) (k : Nat) (x : PN) (hk : k < ms.length), ((((((((cellsP ms).set (k * 8) (.int .i64 x.id)).set (k * 8 + 1) (.int .u64 x.lo)).set (k * 8 + 2) (.int .u64 x.hi)).set (k * 8 + 3) (.int .i64 x.rows)).set (k * 8 + 4) (.int .i64 x.gen)).set (k * 8 + 5) (.int .i64 x.gone)).set (k * 8 + 6) (.int .u32 x.ds)).set (k * 8 + 7) (.int .u32 x.es) = cellsP (ms.set k x)
  | m :: ms, 0, x, _ => by simp [cellsP_cons]
  | m :: ms, k + 1, x, hk => by
    have ih := cellsP_set ms k x (by simpa using hk)
    rw [cellsP_cons, List.set_cons_succ, cellsP_cons, ← ih, show (k + 1) * 8 = k * 8 + 1 + 1 + 1 + 1 + 1 + 1 + 1 + 1 from by omega]
    simp
/-- The world behind the storing of a pair. -/
abbrev putP (W : World) (gr k : Nat) (x : PN) : World := (((((((W.setCell ⟨gr, k * 8, none⟩ (.int .i64 x.id)).setCell ⟨gr, k * 8 + 1, none⟩ (.int .u64 x.lo)).setCell ⟨gr, k * 8 + 2, none⟩ (.int .u64 x.hi)).setCell ⟨gr, k * 8 + 3, none⟩ (.int .i64 x.rows)).setCell ⟨gr, k * 8 + 4, none⟩ (.int .i64 x.gen)).setCell ⟨gr, k * 8 + 5, none⟩ (.int .i64 x.gone)).setCell ⟨gr, k * 8 + 6, none⟩ (.int .u32 x.ds)).setCell ⟨gr, k * 8 + 7, none⟩ (.int .u32 x.es)
theorem ownP.put {W : World} {B gr cap : Nat} {ms : List PN} {n : Nat} (h : ownP W B (.slice (some ⟨gr, 0, none⟩) n cap) ms) (hn : ms.length = n) (k : Nat) (hk : k < n) (x : PN) : ownP (putP W gr k x) B (.slice (some ⟨gr, 0, none⟩) n cap) (ms.set k x) := by
  unfold ownP at h ⊢
  subst hn
  rw [List.length_set, ← cellsP_set ms k x hk]
  exact ownsRow_setP (ownsRow_setP (ownsRow_setP (ownsRow_setP (ownsRow_setP (ownsRow_setP (ownsRow_setP (ownsRow_setP h _ _) _ _) _ _) _ _) _ _) _ _) _ _) _ _
theorem putP_heap (W : World) (gr k : Nat) (x : PN) (b : Nat) (hb : b ≠ gr) : (putP W gr k x).heap[b]? = W.heap[b]? := by
  unfold putP
  rw [Below.heap_setCell _ _ _ b hb, Below.heap_setCell _ _ _ b hb, Below.heap_setCell _ _ _ b hb, Below.heap_setCell _ _ _ b hb, Below.heap_setCell _ _ _ b hb, Below.heap_setCell _ _ _ b hb, Below.heap_setCell _ _ _ b hb, Below.heap_setCell _ _ _ b hb]
theorem putP_size (W : World) (gr k : Nat) (x : PN) : (putP W gr k x).heap.size = W.heap.size := by simp
theorem ownP.at {W : World} {B : Nat} {ao : Option Addr} {n cap : Nat} {ms : List PN} (h : ownP W B (.slice ao n cap) ms) (k : Nat) (hk : k < ms.length) : ∃ gr, ao = some ⟨gr, 0, none⟩ ∧ B ≤ gr ∧ gr < W.heap.size ∧ PnAt W gr (k * 8) ms[k] ∧ ∀ j, W.frozen? ⟨gr, j, none⟩ = false := by
  have hh := h.sees k hk
  rcases h.2 with ⟨h', hn⟩ | ⟨g', cap', cur, h', hb, hg, hnc, hm, hs, ht⟩
  · omega
  · simp only [Value.slice.injEq] at h'
    obtain ⟨rfl, rfl, rfl⟩ := h'
    obtain ⟨b, off, e, hlt, hp⟩ := hh
    simp only [Option.some.injEq, Addr.mk.injEq, and_true] at e
    obtain ⟨rfl, rfl⟩ := e
    rw [Nat.zero_add] at hp
    exact ⟨g', rfl, hb, hlt, hp, fun j => by simp [World.frozen?, hg]⟩
theorem app_pnL {wr : World} {ops : Array Oper} {rest : List Oper} {o : Oper} {a : Act} {Q : Exit → Act → World → Prop} (hgd : o.guard = none) (s x : Operand)
    (ho : o.op = .call { callee := .builtin .append, args := #[s, x], argTypes := #[23, 23] })
    (B : Nat) (v : Value) (vs : List PN) (c : PN) (hown : ownP wr B v vs) (hs : a.eval s = v) (g : Nat) (hg : g = wr.heap.size) (hx : a.eval x = .slice (some ⟨g, 0, none⟩) 1 1)
    (hlen : (vs.length + 1) * 56 ≤ 140737488355328) (hB : B ≤ wr.heap.size)
    (h : ∀ v' w', ownP w' B v' (vs ++ [c]) → Below B wr w' → wr.heap.size + 1 ≤ w'.heap.size → (∀ k, k < wr.heap.size → v.ownBlock ≠ some k → w'.heap[k]? = wr.heap[k]?) → (v'.ownBlock = v.ownBlock ∨ v'.ownBlock = some (wr.heap.size + 1)) → wpList Tryd.prog ops Q rest (a.put o.dst v') w') :
    wpList Tryd.prog ops Q (o :: rest) a (wr.alloc (.cells #[.int .i64 c.id, .int .u64 c.lo, .int .u64 c.hi, .int .i64 c.rows, .int .i64 c.gen, .int .i64 c.gone, .int .u32 c.ds, .int .u32 c.es] 36)) := by
  subst hg
  obtain ⟨i0, hi, hz0, hz1, hz2⟩ := info_parts infoP
  refine wpList_plain hgd fun K hK => ?_
  obtain ⟨v', w', hr, hrow, hgrow, _, hloc⟩ := run_append_own_at (P := Tryd.prog) (w := wr.alloc (.cells #[.int .i64 c.id, .int .u64 c.lo, .int .u64 c.hi, .int .i64 c.rows, .int .i64 c.gen, .int .i64 c.gone, .int .u32 c.ds, .int .u32 c.es] 36)) B 23 o.type 36 i0 _ 8 56 Tryd.underlying23 hi hz0 hz1 hz2 rfl (by decide) v vs.length _ (World.ownsRow.alloc hown _) ⟨wr.heap.size, 0, none⟩ 1 1 (cellP c) rfl (fun j u hj => by
      match j, hj with
      | 0, hj => simp [cellP] at hj; subst hj; simp [Addr.add]
      | 1, hj => simp [cellP] at hj; subst hj; simp [Addr.add]
      | 2, hj => simp [cellP] at hj; subst hj; simp [Addr.add]
      | 3, hj => simp [cellP] at hj; subst hj; simp [Addr.add]
      | 4, hj => simp [cellP] at hj; subst hj; simp [Addr.add]
      | 5, hj => simp [cellP] at hj; subst hj; simp [Addr.add]
      | 6, hj => simp [cellP] at hj; subst hj; simp [Addr.add]
      | 7, hj => simp [cellP] at hj; subst hj; simp [Addr.add]) (fun u hu => cellsP_one [c] u (by simpa [cellsP] using hu)) (by unfold maxLen; omega) (by omega) (by simp; omega)
  unfold Oper.wp execOp
  simp only [ho, resolve, invoke, builtin, Sem.run_bind, Sem.run_pure, Result.andThen_ok, List.map_toArray, List.map_cons, List.map_nil, hs, hx, hr]
  refine hK _ _ (h v' w' ?_ (((Below.refl _ _).alloc hB _).grown hgrow (by simp; omega) (fun k hk => (World.ownsRow.lt hown k hk).1)) ?_ ?_ ?_)
  · have : (vs ++ [c]).length = vs.length + 1 := by simp
    unfold ownP; rw [this, cellsP_app, show cellsP [c] = cellP c from by simp [cellsP]]; exact hrow
  · have := hgrow.size
    simpa using this
  · intro k hk hne
    exact (hgrow.block k (by simp; omega) (fun e => hne e.symm)).trans (Below.heap_alloc _ _ k hk)
  · simpa using hloc
/-- What stands while a list is written full: nothing else is touched. -/
structure NmS (w : World) (LB : Nat) (v0 : Value) (gen next upto : Int) (W : World) (v : Value) (ps : List PN) : Prop where
  m : Mn4 W w.heap.size (.int .i64 gen) (.int .i64 next) (.int .u64 upto) v
  own : ownP W LB v ps
  bel : Below LB w W
  lb : LB ≤ w.heap.size
  keep : ∀ k, k < w.heap.size → v0.ownBlock ≠ some k → W.heap[k]? = w.heap[k]?
  at_ : ∀ k, v.ownBlock = some k → v0.ownBlock = some k ∨ w.heap.size < k
  sz : w.heap.size < W.heap.size
theorem NmS.put {w : World} {LB gr n cap : Nat} {gen next upto : Int} {W : World} {ps : List PN} (h : NmS w LB (.slice (some ⟨gr, 0, none⟩) n cap) gen next upto W (.slice (some ⟨gr, 0, none⟩) n cap) ps) (hg : gr < w.heap.size) (hn : ps.length = n) (k : Nat) (hk : k < n) (x : PN) : NmS w LB (.slice (some ⟨gr, 0, none⟩) n cap) gen next upto (putP W gr k x) (.slice (some ⟨gr, 0, none⟩) n cap) (ps.set k x) :=
  have hlo := (h.own.own gr rfl).1
  ⟨(putP_heap W gr k x _ (by omega)).trans h.m, h.own.put hn k hk x, (((((((h.bel.setCell (p := ⟨gr, k * 8, none⟩) hlo _).setCell (p := ⟨gr, k * 8 + 1, none⟩) hlo _).setCell (p := ⟨gr, k * 8 + 2, none⟩) hlo _).setCell (p := ⟨gr, k * 8 + 3, none⟩) hlo _).setCell (p := ⟨gr, k * 8 + 4, none⟩) hlo _).setCell (p := ⟨gr, k * 8 + 5, none⟩) hlo _).setCell (p := ⟨gr, k * 8 + 6, none⟩) hlo _).setCell (p := ⟨gr, k * 8 + 7, none⟩) hlo _, h.lb, fun j hj hne => (putP_heap W gr k x j (fun e => hne (by rw [e]; rfl))).trans (h.keep j hj hne), h.at_, by rw [putP_size]; exact h.sz⟩
theorem NmS.app {w : World} {LB : Nat} {v0 : Value} {gen next upto : Int} {W W' : World} {v v' : Value} {ps ps' : List PN} (h : NmS w LB v0 gen next upto W v ps) (hlt : ∀ k, v0.ownBlock = some k → k < w.heap.size) (ho : ownP W' LB v' ps') (hbl : Below LB W W') (hs : W.heap.size + 1 ≤ W'.heap.size) (hk : ∀ k, k < W.heap.size → v.ownBlock ≠ some k → W'.heap[k]? = W.heap[k]?) (hl : v'.ownBlock = v.ownBlock ∨ v'.ownBlock = some (W.heap.size + 1)) : Mn4 W' w.heap.size (.int .i64 gen) (.int .i64 next) (.int .u64 upto) v ∧ NmS w LB v0 gen next upto (W'.setCell ⟨w.heap.size, 3, none⟩ v') v' ps' := by
  have hsz := h.sz
  have hvM : v.ownBlock ≠ some w.heap.size := fun e => by
    rcases h.at_ _ e with e2 | e2
    · have := hlt _ e2; omega
    · omega
  have hM : Mn4 W' w.heap.size (.int .i64 gen) (.int .i64 next) (.int .u64 upto) v := (hk _ h.sz hvM).trans h.m
  refine ⟨hM, hM.set3 v', ho.keep (fun k e => Below.heap_setCell _ _ _ k (fun e2 => ?_)), (h.bel.trans hbl).setCell (p := ⟨w.heap.size, 3, none⟩) h.lb _, h.lb, fun j hj hne => ?_, fun k e => ?_, by simp; omega⟩
  · have e3 : k = w.heap.size := e2
    subst e3
    rcases hl with e1 | e1
    · exact hvM (e1 ▸ e)
    · rw [e1] at e; injection e with e; omega
  · refine (Below.heap_setCell _ _ _ j (by simp only; omega)).trans ((hk j (by omega) (fun e => ?_)).trans (h.keep j hj hne))
    rcases h.at_ _ e with e2 | e2
    · exact hne e2
    · omega
  · rcases hl with e1 | e1
    · exact h.at_ k (e1 ▸ e)
    · rw [e1] at e; injection e with e; right; omega
set_option maxHeartbeats 6400000 in
theorem named_any (w : World) (gen next upto : Int) (v0 : Value) (ps : List PN) (LB : Nat) (h : ownP w LB v0 ps) (hLB : LB ≤ w.heap.size) (hl : ps.length ≤ 256) :
    Calls Tryd.prog 11 #[.agg #[.int .i64 gen, .int .i64 next, .int .u64 upto, v0]] w fun e w' => e = .returned (.tuple #[]) ∧ Below LB w w' ∧ ∀ k, k < w.heap.size → v0.ownBlock ≠ some k → w'.heap[k]? = w.heap[k]? := by
  have hlt : ∀ k, v0.ownBlock = some k → k < w.heap.size := fun k hk => (World.ownsRow.lt h k hk).2
  have HLT : Hid _ := hlt
  have HS0 : Hid (NmS w LB v0 gen next upto (w.alloc (.cells #[.int .i64 gen, .int .i64 next, .int .u64 upto, v0] 25)) v0 ps) := ⟨heap_alloc_new w _, h.alloc _, (Below.refl _ _).alloc hLB _, hLB, fun k hk _ => Below.heap_alloc _ _ k hk, fun k hk => .inl hk, by simp⟩
  obtain ⟨ao, cap, rfl, -, -⟩ := h.slice
  clear h hlt
  go_enter Tryd.func11, Tryd.ntmps11
  go_wp2_with fail
  generalize w.alloc (.cells #[.int .i64 gen, .int .i64 next, .int .u64 upto, .slice ao ps.length cap] 25) = W0 at *
  go_loopw [2] (fun i wr => ∃ (k : Nat) (qs : List PN), k ≤ ps.length ∧ i = .int .i64 k ∧ qs.length = ps.length ∧ NmS w LB (.slice ao ps.length cap) gen next upto wr (.slice ao ps.length cap) qs) (fun i _ => ps.length - (intOf i).toNat)
  case atStart => exact ⟨0, ps, by omega, rfl, rfl, HS0.out⟩
  case round =>
    obtain ⟨k, qs, hk, rfl, hq, hS⟩ := hrel
    have HSk : Hid (NmS w LB (.slice ao ps.length cap) gen next upto wr (.slice ao ps.length cap) qs) := hS
    have HQ : Hid (qs.length = ps.length) := hq
    clear hS hq HS0
    have c3 : wr.cell? ⟨w.heap.size, 3, none⟩ = some (.slice ao ps.length cap) := HSk.out.m.cell 3
    have HF3 : Hid (wr.frozen? ⟨w.heap.size, 3, none⟩ = false) := HSk.out.m.free 3
    by_cases h1 : k < ps.length
    · obtain ⟨gr, e, _, hgr, hat, hfz⟩ := HSk.out.own.at k (by rw [HQ.out]; exact h1)
      obtain ⟨q0, q1, q2, q3, q4, q5, q6, q7⟩ := hat
      subst e
      have z0 := hfz (k * 8)
      have z1 := hfz (k * 8 + 1)
      have z2 := hfz (k * 8 + 2)
      have z3 := hfz (k * 8 + 3)
      have z4 := hfz (k * 8 + 4)
      have z5 := hfz (k * 8 + 5)
      have z6 := hfz (k * 8 + 6)
      have z7 := hfz (k * 8 + 7)
      have hwr : IntKind.i64.wrap (-(k : Int)) = -(k : Int) := by rw [IntKind.wrap_i64]; omega
      have hSn := HSk.out.put (HLT.out gr rfl) HQ.out k h1 ⟨-(k : Int), 0, 0, 0, 0, 0, 0, 0⟩
      unfold putP at hSn
      simp only at hSn
      have HSn : Hid _ := hSn
      clear hfz hSn
      go_wp2
      go_roundw
      case rel =>
        refine ⟨k + 1, qs.set k ⟨-(k : Int), 0, 0, 0, 0, 0, 0, 0⟩, by omega, by go_num, by rw [List.length_set]; exact HQ.out, ?_⟩
        exact HSn.out
      case measure => simp [intOf]; omega
    · go_wp2_with fail
      clear c3
      go_loopw [3] (fun i wq => ∃ (t : Nat) (v : Value) (rs : List PN), t ≤ 20 ∧ i = .int .i64 t ∧ rs.length = ps.length + t ∧ NmS w LB (.slice ao ps.length cap) gen next upto wq v rs) (fun i _ => 20 - (intOf i).toNat)
      case atStart => exact ⟨0, _, qs, by omega, rfl, HQ.out, HSk.out⟩
      case round =>
        rename World => wq
        obtain ⟨t, v, rs, ht, rfl, hr, hS⟩ := hrel
        have HSt : Hid (NmS w LB (.slice ao ps.length cap) gen next upto wq v rs) := hS
        have HR : Hid (rs.length = ps.length + t) := hr
        clear hS hr HSk
        have c3 : wq.cell? ⟨w.heap.size, 3, none⟩ = some v := HSt.out.m.cell 3
        by_cases h2 : t < 20
        · obtain ⟨a1, n1, p1, rfl⟩ := HSt.out.own.isSlice
          have HLen : Hid ((rs.length + 1) * 56 ≤ 140737488355328) := by have := HR.out; show _ ≤ _; omega
          go_wp2_with (at_builtin; refine hideG ?_)
          change wpList _ _ _ _ _ _
          refine app_pnL (by rfl) _ _ (by rfl) LB _ rs ⟨-99, 0, 0, 0, 0, 0, 0, 0⟩ HSt.out.own (by rfl) _ rfl (by rfl) HLen.out (Nat.le_trans HSt.out.lb (Nat.le_of_lt HSt.out.sz)) ?_
          intro v' w' ho hbl' hs' hk' hl'
          obtain ⟨a2, n2, p2, rfl⟩ := ho.isSlice
          obtain ⟨hM, hS'⟩ := HSt.out.app HLT.out ho hbl' hs' hk' hl'
          have HS' : Hid _ := hS'
          have u3 : w'.cell? ⟨w.heap.size, 3, none⟩ = some (.slice a1 n1 p1) := hM.cell 3
          have u4 := hM.free 3
          clear ho hbl' hs' hk' hl' hM hS' c3
          go_wp2
          go_roundw
          case rel => exact ⟨t + 1, _, _, by omega, by go_num, by rw [List.length_append, HR.out]; simp only [List.length_cons, List.length_nil]; omega, HS'.out⟩
          case measure => simp [intOf]; omega
        · clear c3
          go_wp2
          go_end0
          exact ⟨rfl, HSt.out.bel, HSt.out.keep⟩
end Go.Proofs.YtjceellpmopnkaaDoor
