import Derived.Test.YtdpebhdjcgiboaaGreatKSg2
namespace Go.Proofs.YtdpebhdjcgiboaaGreat
open Go.ChangeShapes Go.WideShapes Go.ChangeAt Go.RowKit Go.MuLone Go.RwLone
set_option linter.unusedVariables false
set_option maxRecDepth 100000
set_option maxHeartbeats 3200000
def wdC (x : Int) : List Value := [.int .u64 x]
/-- A litmus program in sight, in blocks below C. -/
structure LitG (w : World) (C : Nat) (ca : Option Addr) (cc : Nat) (ta : Option Addr) (tc : Nat) (tv : Nat → Value) (cs : List Int) (ts : List (List I8)) : Prop where
  c : InG wdC w C (.slice ca cs.length cc) cs
  t : ∀ i, i < ts.length → ∃ tb off, ta = some ⟨tb, off, none⟩ ∧ tb < C ∧ w.cell? ⟨tb, off + i, none⟩ = some (tv i)
  i : ∀ i (hi : i < ts.length), InG iC w C (tv i) ts[i]
  lc : cs.length ≤ 140737488355328
  lt : ts.length ≤ 140737488355328
  li : ∀ i (hi : i < ts.length), ts[i].length ≤ 140737488355328
theorem LitG.later {w w' : World} {C : Nat} {ca : Option Addr} {cc : Nat} {ta : Option Addr} {tc : Nat} {tv : Nat → Value} {cs : List Int} {ts : List (List I8)} (h : LitG w C ca cc ta tc tv cs ts) (k : Below C w w') : LitG w' C ca cc ta tc tv cs ts := by
  refine ⟨h.c.later k, fun i hi => ?_, fun i hi => (h.i i hi).later k, h.lc, h.lt, h.li⟩
  obtain ⟨tb, off, e, hl, hc⟩ := h.t i hi
  exact ⟨tb, off, e, hl, (k.cell (p := ⟨tb, off + i, none⟩) hl).trans hc⟩
abbrev litC (ca : Option Addr) (cn cc : Nat) (ta : Option Addr) (tn tc : Nat) : Array Value := #[.slice ca cn cc, .slice ta tn tc]
def goT (wd : Nat) : Int → List (List I8) → Bool
  | _, [] => true
  | left, l :: r => if left - (l.length : Int) < 0 then false else (l.all (sndB wd) && goT wd (left - (l.length : Int)) r)
/-- Is it a litmus program? -/
def soundP (cs : List Int) (ts : List (List I8)) : Bool := wiB (ts.length : Int) 1 4 && (wiB (cs.length : Int) 1 4 && goT cs.length 10 ts)
abbrev lgW (w : World) (c : Array Value) : World := w.alloc (.cells c 49)
theorem lg_keep {w w' : World} {a b : Value} (k : Keeps (fun _ => False) (lgW w #[a, b]) w') : w'.cell? ⟨w.heap.size, 0, none⟩ = some a ∧ w'.cell? ⟨w.heap.size, 1, none⟩ = some b := by
  have hb1 := (k.block w.heap.size (by simp) (fun e => e)).trans (heap_alloc_last _ _ _ rfl)
  exact ⟨(cell?_heap hb1 0).trans rfl, (cell?_heap hb1 1).trans rfl⟩
theorem InG.i8 {w : World} {C : Nat} {v : Value} {xs : List I8} (h : InG iC w C v xs) (k : Nat) (hk : k < xs.length) : ∃ b off cap, v = .slice (some ⟨b, off, none⟩) xs.length cap ∧ w.cell? ⟨b, off + k * 8, none⟩ = some (.int .i64 xs[k].op) ∧ w.cell? ⟨b, off + k * 8 + 1, none⟩ = some (.int .i64 xs[k].c) ∧ w.cell? ⟨b, off + k * 8 + 2, none⟩ = some (.int .i64 xs[k].r) ∧ w.cell? ⟨b, off + k * 8 + 3, none⟩ = some (.int .i64 xs[k].nr) ∧ w.cell? ⟨b, off + k * 8 + 4, none⟩ = some (.int .u64 xs[k].ni) ∧ w.cell? ⟨b, off + k * 8 + 5, none⟩ = some (.int .i64 xs[k].orr) ∧ w.cell? ⟨b, off + k * 8 + 6, none⟩ = some (.int .u64 xs[k].oi) ∧ w.cell? ⟨b, off + k * 8 + 7, none⟩ = some (.int .i64 xs[k].n) := by
  obtain ⟨a, cap, e⟩ := h.form
  rw [e] at h
  obtain ⟨b, off, rfl, _, hc⟩ := InG.cell (cs := iC) (n := 8) (fun _ => rfl) h k hk (by decide)
  exact ⟨b, off, cap, e, hc 0 (by decide), hc 1 (by decide), hc 2 (by decide), hc 3 (by decide), hc 4 (by decide), hc 5 (by decide), hc 6 (by decide), hc 7 (by decide)⟩
theorem isLit_any (w : World) (C : Nat) (ca : Option Addr) (cc : Nat) (ta : Option Addr) (tc : Nat) (tv : Nat → Value) (cs : List Int) (ts : List (List I8)) (h : LitG w C ca cc ta tc tv cs ts) (hC : C ≤ w.heap.size) :
    Calls Tryz.prog 58 #[.agg (litC ca cs.length cc ta ts.length tc)] w fun e w' => e = .returned (.bool (soundP cs ts)) ∧ Keeps (fun _ => False) w w' := by
  have HK0 : Hid (Keeps (fun _ => False) w (lgW w (litC ca cs.length cc ta ts.length tc))) := (Keeps.refl _ _).alloc _
  have H : Hid (∀ W, Keeps (fun _ => False) (lgW w (litC ca cs.length cc ta ts.length tc)) W → LitG W C ca cc ta tc tv cs ts) := fun W k => h.later ((HK0.out.trans k).below hC (fun _ _ e => e))
  have hlc := h.lc
  have hlt := h.lt
  clear h
  go_enter Tryz.func58, Tryz.ntmps58
  go_wp2_with fail
  refine (within_any ts.length 1 4 _).mono ?_
  rintro e w' ⟨rfl, rfl⟩
  cases hb1 : wiB (ts.length : Int) 1 4 with
  | false =>
    have HS : Hid (soundP cs ts = false) := by show _ = _; unfold soundP; rw [hb1]; rfl
    go_wp2
    go_ret
    rw [HS.out]
    exact ⟨rfl, HK0.out⟩
  | true =>
    go_wp2_with fail
    refine (within_any cs.length 1 4 _).mono ?_
    rintro e w' ⟨rfl, rfl⟩
    cases hb2 : wiB (cs.length : Int) 1 4 with
    | false =>
      have HS : Hid (soundP cs ts = false) := by show _ = _; unfold soundP; rw [hb1, hb2]; rfl
      go_wp2
      go_ret
      rw [HS.out]
      exact ⟨rfl, HK0.out⟩
    | true =>
      have HS : Hid (soundP cs ts = goT cs.length 10 ts) := by show _ = _; unfold soundP; rw [hb1, hb2]; rfl
      have ht4 := wiB_t hb1
      have hc4 := wiB_t hb2
      clear hb1 hb2
      obtain ⟨G, hG⟩ : ∃ G, goT cs.length 10 ts = G := ⟨_, rfl⟩
      have HG : Hid (soundP cs ts = G ∧ goT cs.length 10 ts = G) := ⟨HS.out.trans hG, hG⟩
      clear HS hG
      go_wp2_with fail
      go_loopw [3, 23] (fun c d wr => ∃ (t : Nat) (lf : Int), c = .int .i64 lf ∧ 0 ≤ lf ∧ lf ≤ 10 ∧ d = .int .i64 t ∧ t ≤ ts.length ∧ Keeps (fun _ => False) (lgW w (litC ca cs.length cc ta ts.length tc)) wr ∧ goT cs.length lf (ts.drop t) = G) (fun _ d _ => ts.length - (intOf d).toNat)
      case atStart => exact ⟨0, 10, rfl, by omega, by omega, rfl, by omega, Keeps.refl _ _, HG.out.2⟩
      case round =>
        obtain ⟨t, lf, rfl, lf0, lf1, rfl, ht, hk, hgo⟩ := hrel
        have HK : Hid (Keeps (fun _ => False) (lgW w (litC ca cs.length cc ta ts.length tc)) wr ∧ goT cs.length lf (ts.drop t) = G) := ⟨hk, hgo⟩
        clear hk hgo
        by_cases h5 : t < ts.length
        · obtain ⟨tb, off, rfl, _, ct⟩ := (H.out wr HK.out.1).t t h5
          obtain ⟨ia, icap, hiv⟩ := ((H.out wr HK.out.1).i t h5).form
          rw [hiv] at ct
          have hli := (H.out wr HK.out.1).li t h5
          have HE : Hid (goT cs.length lf (ts.drop t) = if lf - ((ts[t]).length : Int) < 0 then false else (ts[t].all (sndB cs.length) && goT cs.length (lf - ((ts[t]).length : Int)) (ts.drop (t + 1)))) := by
            show _ = _
            rw [List.drop_eq_getElem_cons h5]
            rfl
          have HIN : Hid (∀ W, Keeps (fun _ => False) (lgW w (litC ca cs.length cc (some ⟨tb, off, none⟩) ts.length tc)) W → InG iC W C (.slice ia ts[t].length icap) ts[t]) := fun W k => by rw [← hiv]; exact (H.out W k).i t h5
          have t0 : (0 : Int) ≤ (t : Int) := Int.natCast_nonneg _
          have t1 : (t : Int) < (ts.length : Int) := by omega
          clear hiv
          generalize ts[t] = l at *
          obtain ⟨m, hm⟩ : ∃ m, l.length = m := ⟨_, rfl⟩
          have HM : Hid (l.length = m) := hm
          rw [hm] at ct hli HE HIN
          have hw3 : IntKind.i64.wrap (lf - (m : Int)) = lf - (m : Int) := by rw [IntKind.wrap_i64]; omega
          clear hm
          by_cases hneg : lf - (m : Int) < 0
          · have HF : Hid (G = false) := by show _ = _; rw [← HK.out.2, HE.out, if_pos hneg]
            go_wp2
            go_ret
            rw [HG.out.1, HF.out]
            exact ⟨rfl, HK0.out.trans HK.out.1⟩
          · have HE2 : Hid (G = (l.all (sndB cs.length) && goT cs.length (lf - (m : Int)) (ts.drop (t + 1)))) := by show _ = _; rw [← HK.out.2, HE.out, if_neg hneg]
            clear HE
            go_wp2_with fail
            go_loopw [35] (fun c wq => ∃ (u : Nat), c = .int .i64 u ∧ u ≤ m ∧ Keeps (fun _ => False) (lgW w (litC ca cs.length cc (some ⟨tb, off, none⟩) ts.length tc)) wq ∧ (l.drop u).all (sndB cs.length) = l.all (sndB cs.length)) (fun c _ => m - (intOf c).toNat)
            case atStart => exact ⟨0, rfl, by omega, HK.out.1, rfl⟩
            case round =>
              obtain ⟨u, rfl, hu, hk2, hall⟩ := hrel
              have HK2 : Hid (Keeps (fun _ => False) (lgW w (litC ca cs.length cc (some ⟨tb, off, none⟩) ts.length tc)) wr ∧ (l.drop u).all (sndB cs.length) = l.all (sndB cs.length)) := ⟨hk2, hall⟩
              clear hk2 hall ct
              by_cases h6 : u < m
              · have hul : u < l.length := by rw [HM.out]; exact h6
                have hin := HIN.out wr HK2.out.1
                rw [← HM.out] at hin
                obtain ⟨b, o2, cp2, e2, q0, q1, q2, q3, q4, q5, q6, q7⟩ := hin.i8 u hul
                injection e2 with e2 _ e3
                subst e2
                have HA : Hid ((l.drop u).all (sndB cs.length) = (sndB cs.length l[u] && (l.drop (u + 1)).all (sndB cs.length))) := by show _ = _; rw [List.drop_eq_getElem_cons hul]; rfl
                have u0 : (0 : Int) ≤ (u : Int) := Int.natCast_nonneg _
                have u1 : (u : Int) < (m : Int) := by omega
                clear hin e3
                generalize l[u] = x at *
                have HK3 : Hid (Keeps (fun _ => False) (lgW w (litC ca cs.length cc (some ⟨tb, off, none⟩) ts.length tc)) (wr.alloc (.cells (iV x) 106))) := HK2.out.1.alloc _
                have q8 := (lg_keep HK3.out).1
                go_wp2_with fail
                refine (isInstr_any x cs.length _ hlc).mono ?_
                rintro e w5 ⟨rfl, k5⟩
                have HK5 : Hid (Keeps (fun _ => False) (lgW w (litC ca cs.length cc (some ⟨tb, off, none⟩) ts.length tc)) w5) := HK3.out.trans k5
                clear k5 q8 q0 q1 q2 q3 q4 q5 q6 q7
                cases hx : sndB cs.length x with
                | false =>
                  have HF : Hid (G = false) := by show _ = _; rw [HE2.out, ← HK2.out.2, HA.out, hx]; rfl
                  go_wp2
                  go_ret
                  rw [HG.out.1, HF.out]
                  exact ⟨rfl, HK0.out.trans HK5.out⟩
                | true =>
                  have HA2 : Hid ((l.drop (u + 1)).all (sndB cs.length) = l.all (sndB cs.length)) := by show _ = _; rw [← HK2.out.2, HA.out, hx]; rfl
                  clear hx HA HK2
                  go_wp2
                  go_roundw
                  case rel => exact ⟨u + 1, by go_num, by omega, HK5.out, HA2.out⟩
                  case measure => simp [intOf]; omega
              · have HA : Hid (l.all (sndB cs.length) = true) := by show _ = _; rw [← HK2.out.2, List.drop_of_length_le (by rw [HM.out]; omega)]; rfl
                have HE3 : Hid (goT cs.length (lf - (m : Int)) (ts.drop (t + 1)) = G) := by show _ = _; rw [HE2.out, HA.out]; rfl
                go_wp2
                go_roundw
                case rel => exact ⟨t + 1, lf - (m : Int), rfl, by omega, by omega, by go_num, by omega, HK2.out.1, HE3.out⟩
                case measure => simp [intOf]; omega
        · have HF : Hid (G = true) := by show _ = _; rw [← HK.out.2, List.drop_of_length_le (by omega)]; rfl
          go_wp2
          go_ret
          rw [HG.out.1, HF.out]
          exact ⟨rfl, HK0.out.trans HK.out.1⟩
end Go.Proofs.YtdpebhdjcgiboaaGreat

namespace Go.Proofs.YtdpebhdjcgiboaaGreat
open Go.ChangeShapes Go.WideShapes Go.ChangeAt Go.RowKit Go.MuLone Go.RwLone
set_option linter.unusedVariables false
set_option maxRecDepth 100000
set_option maxHeartbeats 3200000
/-- The blocks of one thread. -/
structure Bk where
  T : Nat
  iv : Value
  pb : Nat
  cp : Nat
abbrev thA (L : Lay) (iv : Value) : Array Value := #[.pointer (some ⟨L.b, 0, none⟩), .int .i64 1, iv, .int .u64 0, .int .u64 0, .int .u64 0, .int .u64 0, .int .i64 0]
abbrev beA (L : Lay) (tv : Value) (hb : Nat) : Array Value := #[.pointer (some ⟨L.b, 0, none⟩), .int .i64 1, tv, .pointer (some ⟨hb, 0, none⟩)]
abbrev haA (qb n : Nat) : Array Value := #[.slice (some ⟨qb, 0, none⟩) n n, .int .i64 0, .slice none 0 0, .slice none 0 0]
/-- One thread, laid out. -/
structure Each (wr : World) (M : Nat) (L : Lay) (ts : Nat → List I8) (j : Nat) (b : Bk) : Prop where
  oi : OwG iC 106 8 wr M b.iv (ts j)
  th : wr.heap[b.T]? = some (.cells (thA L b.iv) 154)
  op : OwG plC 174 3 wr M (.slice (some ⟨b.pb, 0, none⟩) 1 b.cp) [(b.T, (j : Int))]
  o1 : M ≤ b.T
  o2 : ∀ g, b.iv.ownBlock = some g → M ≤ g ∧ g < b.T
  o3 : b.T < b.pb
  o4 : b.pb < wr.heap.size
theorem Keeps.thin {D : Nat → Prop} {w w' : World} (h : Keeps (fun x => D x ∨ w.heap.size ≤ x) w w') : Keeps D w w' := ⟨h.os, h.tape, h.output, h.size, fun k hk hn => h.block k hk (fun e => e.elim hn (fun e => by omega))⟩
theorem Each.keeps {wr wr' : World} {M : Nat} {L : Lay} {ts : Nat → List I8} {j : Nat} {b : Bk} {D : Nat → Prop} (h : Each wr M L ts j b) (k : Keeps D wr wr') (hD : ∀ x, D x → x < M) : Each wr' M L ts j b :=
  ⟨h.oi.keeps k hD, (k.block _ (Array.getElem?_eq_some_iff.1 h.th).1 (fun e => by have := hD _ e; have := h.o1; omega)).trans h.th, h.op.keeps k hD, h.o1, h.o2, h.o3, Nat.lt_of_lt_of_le h.o4 k.size⟩
theorem Each.kpt {wr wr' : World} {M : Nat} {L : Lay} {ts : Nat → List I8} {j : Nat} {b : Bk} (h : Each wr M L ts j b) (k : KpT 31 wr wr') (hs : wr.heap.size ≤ wr'.heap.size) : Each wr' M L ts j b :=
  ⟨h.oi.kept k (by decide), (k _ _ _ _ h.th (by decide)).trans h.th, h.op.kept k (by decide), h.o1, h.o2, h.o3, Nat.lt_of_lt_of_le h.o4 hs⟩
theorem Each.set {wr : World} {M : Nat} {L : Lay} {ts : Nat → List I8} {j : Nat} {b : Bk} (h : Each wr M L ts j b) {p : Addr} (hp : p.block < M) (u : Value) : Each (wr.setCell p u) M L ts j b :=
  h.keeps (D := fun x => x < M) (Keeps.setCell (B := fun x => x < M) (Keeps.refl _ _) hp u) (fun _ e => e)
/-- In the midst of laying out: i threads are laid. -/
structure La (w0 wr : World) (M : Nat) (L : Lay) (S : AS) (bb hb qb n : Nat) (ts : Nat → List I8) (f : Nat → Bk) (i : Nat) (tv : Value) (tp : List Nat) : Prop where
  hd : Holds wr L S
  be : wr.heap[bb]? = some (.cells (beA L tv hb) 146)
  ha : wr.heap[hb]? = some (.cells (haA qb n) 118)
  qd : ∀ j, j < i → wr.cell? ⟨qb, j, none⟩ = some (.slice (some ⟨(f j).pb, 0, none⟩) 1 (f j).cp)
  qz : ∀ j, i ≤ j → j < n → wr.cell? ⟨qb, j, none⟩ = some (.slice none 0 0)
  qf : ∀ j, wr.frozen? ⟨qb, j, none⟩ = false
  qt : ∃ c, wr.heap[qb]? = some (.cells c 120)
  ot : OwT wr M tv tp
  ea : ∀ j, j < i → Each wr M L ts j (f j)
  oo : ∀ j k, j < k → k < i → (f j).pb < (f k).T ∧ ∀ g, (f k).iv.ownBlock = some g → (f j).pb < g
  bl : Below w0.heap.size w0 wr
  lm : ∀ k, L.has k → w0.heap.size ≤ k ∧ k < M
  hm : w0.heap.size ≤ hb ∧ hb < M
  qm : w0.heap.size ≤ qb ∧ qb < M
  bm : w0.heap.size ≤ bb ∧ bb < M
  ms : M ≤ wr.heap.size
  d1 : ¬ L.has hb
  d2 : ¬ L.has qb
  d3 : ¬ L.has bb
  d4 : hb ≠ qb
  d5 : bb ≠ hb
  d6 : bb ≠ qb
variable {w0 wr : World} {M : Nat} {L : Lay} {S : AS} {bb hb qb n : Nat} {ts : Nat → List I8} {f : Nat → Bk} {i : Nat} {tv : Value} {tp : List Nat}
theorem La.still {w' : World} (h : La w0 wr M L S bb hb qb n ts f i tv tp) (k : Keeps (fun _ => False) wr w') : La w0 w' M L S bb hb qb n ts f i tv tp := by
  have lq : qb < wr.heap.size := Nat.lt_of_lt_of_le h.qm.2 h.ms
  exact ⟨h.hd.keeps k (fun _ _ e => e), (k.block _ (Array.getElem?_eq_some_iff.1 h.be).1 (fun e => e)).trans h.be, (k.block _ (Array.getElem?_eq_some_iff.1 h.ha).1 (fun e => e)).trans h.ha, fun j hj => (k.cell (p := ⟨qb, j, none⟩) lq (fun e => e)).trans (h.qd j hj), fun j h1 h2 => (k.cell (p := ⟨qb, j, none⟩) lq (fun e => e)).trans (h.qz j h1 h2), fun j => (k.frozen (p := ⟨qb, j, none⟩) lq (fun e => e)).trans (h.qf j), h.qt.imp (fun c hc => (k.block qb lq (fun e => e)).trans hc), h.ot.keeps k (fun _ e => e.elim), fun j hj => (h.ea j hj).keeps k (fun _ e => e.elim), h.oo, h.bl.trans (k.below h.bl.size (fun _ _ e => e)), h.lm, h.hm, h.qm, h.bm, Nat.le_trans h.ms k.size, h.d1, h.d2, h.d3, h.d4, h.d5, h.d6⟩
/-- A thread more in the bench's row. -/
theorem La.push {w1 : World} {v' : Value} {tp' : List Nat} (h : La w0 wr M L S bb hb qb n ts f i tv tp) (hbl : Below M wr w1) (hk : KpT 31 wr w1) (ho : OwT w1 M v' tp') : La w0 (w1.setCell ⟨bb, 2, none⟩ v') M L S bb hb qb n ts f i v' tp' := by
  have e : ∀ g j, g < M → g ≠ bb → (w1.setCell ⟨bb, 2, none⟩ v').cell? ⟨g, j, none⟩ = wr.cell? ⟨g, j, none⟩ := fun g j hg hn => (World.cell?_setCell_other _ _ _ _ (fun e => hn (congrArg Addr.block e).symm)).trans (hbl.cell (p := ⟨g, j, none⟩) hg)
  have eb : w1.heap[bb]? = some (.cells (beA L tv hb) 146) := (hbl.block bb h.bm.2).trans h.be
  refine ⟨(h.hd.kept (fun k hk => hbl.block k (h.lm k hk).2) hbl.size).far (p := ⟨bb, 2, none⟩) h.d3 _, ?_, (Below.heap_setCell _ _ _ _ (fun e => h.d5 e.symm)).trans ((hbl.block hb h.hm.2).trans h.ha), fun j hj => (e qb j h.qm.2 (fun e => h.d6 e.symm)).trans (h.qd j hj), fun j h1 h2 => (e qb j h.qm.2 (fun e => h.d6 e.symm)).trans (h.qz j h1 h2), fun j => ?_, h.qt.imp (fun c hc => (Below.heap_setCell _ _ _ _ (fun e => h.d6 e.symm)).trans ((hbl.block qb h.qm.2).trans hc)), ho.set (p := ⟨bb, 2, none⟩) h.bm.2 _, fun j hj => ((h.ea j hj).kpt hk hbl.size).set (p := ⟨bb, 2, none⟩) h.bm.2 _, h.oo, ?_, h.lm, h.hm, h.qm, h.bm, ?_, h.d1, h.d2, h.d3, h.d4, h.d5, h.d6⟩
  · simp [World.setCell, Array.getElem?_modify, eb]
  · have := World.frozen?_of_block (w := wr) (w' := w1) (a := ⟨qb, j, none⟩) (hbl.block qb h.qm.2)
    simpa using this.trans (h.qf j)
  · exact h.bl.trans ⟨hbl.os, hbl.tape, hbl.output, by simpa using hbl.size, fun k hk => (Below.heap_setCell _ _ _ _ (by have := h.bm; show k ≠ bb; omega)).trans (hbl.block k (by have := h.bm; omega))⟩
  · have := hbl.size
    have := h.ms
    simp
    omega
theorem La.sub {w' : World} {b : Bk} (h : La w0 wr M L S bb hb qb n ts f i tv tp) (hi : i < n) (hc : w'.cell? ⟨qb, i, none⟩ = some (.slice (some ⟨b.pb, 0, none⟩) 1 b.cp)) (hj : ∀ j, j ≠ i → w'.cell? ⟨qb, j, none⟩ = wr.cell? ⟨qb, j, none⟩) (k0 : Keeps (fun x => x = qb ∨ wr.heap.size ≤ x) wr w') (fq : ∀ j, w'.frozen? ⟨qb, j, none⟩ = false) (hqt : ∃ c, w'.heap[qb]? = some (.cells c 120)) (e : Each w' M L ts i b) (hlt : ∀ j, j < i → (f j).pb < b.T ∧ ∀ g, b.iv.ownBlock = some g → (f j).pb < g) : La w0 w' M L S bb hb qb n ts (upd f i b) (i + 1) tv tp := by
  have k := k0.thin
  have hM := h.qm
  have hD : ∀ x, x = qb → x < M := fun x e => by omega
  refine ⟨h.hd.keeps k (fun g hg e => h.d2 (e ▸ hg)), (k.block _ (Array.getElem?_eq_some_iff.1 h.be).1 h.d6).trans h.be, (k.block _ (Array.getElem?_eq_some_iff.1 h.ha).1 h.d4).trans h.ha, fun j hj' => ?_, fun j h1 h2 => ?_, fq, hqt, h.ot.keeps k hD, fun j hj' => ?_, fun j m h1 h2 => ?_, h.bl.trans (k.below h.bl.size (fun g hg e => by omega)), h.lm, h.hm, h.qm, h.bm, Nat.le_trans h.ms k.size, h.d1, h.d2, h.d3, h.d4, h.d5, h.d6⟩
  · by_cases e' : j = i
    · subst e'; rw [upd_same]; exact hc
    · rw [upd_other _ _ e', hj j e']; exact h.qd j (by omega)
  · rw [hj j (by omega)]; exact h.qz j (by omega) h2
  · by_cases e' : j = i
    · subst e'; rw [upd_same]; exact e
    · rw [upd_other _ _ e']; exact (h.ea j (by omega)).keeps k hD
  · rw [upd_other _ _ (show j ≠ i by omega)]
    by_cases e' : m = i
    · subst e'; rw [upd_same]; exact hlt j h1
    · rw [upd_other _ _ e']; exact h.oo j m h1 (by omega)
/-- The bench's machines, told of its blocks. -/
def iaOf : Value → Option Addr
  | .slice a _ _ => a
  | _ => none
def cpOf : Value → Nat
  | .slice _ _ c => c
  | _ => 0
def bdOf (L : Lay) (n wd : Nat) (ts : Nat → List I8) (f : Nat → Bk) : Bd := ⟨L, n, wd, fun i => (f i).T, fun i => iaOf (f i).iv, fun i => cpOf (f i).iv, ts⟩
theorem iaOf_own {α : Type} {cs : α → List Value} {e : TypeId} {c : Nat} {w : World} {B : Nat} {v : Value} {xs : List α} (h : OwG cs e c w B v xs) : v = .slice (iaOf v) xs.length (cpOf v) ∧ ∀ ib, iaOf v = some ⟨ib, 0, none⟩ → v.ownBlock = some ib := by
  rcases h.2 with ⟨rfl, hn⟩ | ⟨g, cap, cur, rfl, _⟩
  · exact ⟨by rw [hn]; rfl, fun ib e => by cases e⟩
  · exact ⟨rfl, fun ib e => by
      have : (some ⟨g, 0, none⟩ : Option Addr) = some ⟨ib, 0, none⟩ := e
      injection this with this
      injection this with this
      rw [this]; rfl⟩
theorem La.bdok (h : La w0 wr M L S bb hb qb n ts f n tv tp) (wd : Nat) (hs : ∀ i, i < n → ∀ x ∈ ts i, snd wd x ∧ immOk x) (hl : ∀ i, i < n → (ts i).length ≤ 1000) : BdOk (bdOf L n wd ts f) := by
  have lh : ∀ x, M ≤ x → ¬ L.has x := fun x hx e => by have := (h.lm x e).2; omega
  refine ⟨fun i hi => lh _ (h.ea i hi).o1, fun i j hi hj e => ?_, fun i ib hi e => ?_, hs, hl⟩
  · show (f i).T ≠ (f j).T
    have := (h.ea i hi).o3
    have := (h.ea j hj).o3
    rcases Nat.lt_or_gt_of_ne e with e | e
    · have := (h.oo i j e hj).1; omega
    · have := (h.oo j i e hi).1; omega
  · have ho := (iaOf_own (h.ea i hi).oi).2 ib e
    have ho2 := (h.ea i hi).o2 ib ho
    refine ⟨lh _ ho2.1, fun j hj => ?_⟩
    show ib ≠ (f j).T
    have := (h.ea i hi).o3
    have := (h.ea j hj).o3
    by_cases e2 : i = j
    · subst e2; omega
    · rcases Nat.lt_or_gt_of_ne e2 with e3 | e3
      · have := (h.oo i j e3 hj).1; omega
      · have := (h.oo j i e3 hi).2 ib ho; omega
theorem La.bo (h : La w0 wr M L S bb hb qb n ts f n tv tp) (wd : Nat) (s1 : S.rc = 0) (s2 : S.n = 1) (s3 : S.use 0 = true) (s4 : S.wd = wd) (s5 : S.g0 = 0) (hw : ∀ i, i < wd → 0 ≤ S.word i ∧ S.word i < 18446744073709551616) : Bo (bdOf L n wd ts f) wr ⟨S.word, fun _ _ => 0, fun _ => 0⟩ := by
  refine ⟨⟨S, h.hd, rfl, s1, s2, s3, s4, s5⟩, hw, fun i hi => ?_, fun i hi => ?_, fun i ib hi e => ?_⟩
  · have e := (h.ea i hi).th
    have c : ∀ j, wr.cell? ⟨(f i).T, j, none⟩ = (thA L (f i).iv)[j]? := fun j => cell?_heap e j
    refine ⟨(c 0).trans rfl, (c 1).trans rfl, (c 2).trans ?_, fun j hj => (c (3 + j)).trans (by
      have : j = 0 ∨ j = 1 ∨ j = 2 ∨ j = 3 := by omega
      rcases this with rfl | rfl | rfl | rfl <;> rfl), (c 7).trans rfl, fun j => frozen?_heap e j, (Array.getElem?_eq_some_iff.1 e).1⟩
    exact congrArg some (iaOf_own (h.ea i hi).oi).1
  · intro k hk
    have ho := (h.ea i hi).oi
    obtain ⟨g, cap, e, _, hlt⟩ := owG_some ho (fun e => by
      have hk' : k < (ts i).length := hk
      rw [e] at hk'
      simp at hk')
    rw [e] at ho
    refine ⟨g, by show iaOf (f i).iv = _; rw [e]; rfl, In8.of (fun j hj => ?_) hlt⟩
    have hk' : k < (ts i).length := hk
    rw [World.ownsRow.cellAt ho (k * 8 + j) (by omega)]
    exact flat_get iC 8 (fun _ => rfl) (ts i) k hk' j hj
  · have ho := (iaOf_own (h.ea i hi).oi).2 ib e
    have h2 := ((h.ea i hi).o2 ib ho).2
    have := (h.ea i hi).o3
    have := (h.ea i hi).o4
    omega
/-- The harness' blocks. -/
def fH (hb qb n : Nat) (f : Nat → Bk) (x : Nat) : Prop := x = hb ∨ x = qb ∨ ∃ j, j < n ∧ x = (f j).pb
def hp0 (n : Nat) : Hp := ⟨(List.range n).map (fun j => [(j, (j : Int), false)]), 0, [], []⟩
theorem La.hmem (h : La w0 wr M L S bb hb qb n ts f n tv tp) (h16 : n ≤ 16) : Hm wr (fH hb qb n f) (fun i => (f i).T) hb qb (fun j => .slice (some ⟨(f j).pb, 0, none⟩) 1 (f j).cp) (.slice none 0 0) (.slice none 0 0) (hp0 n) := by
  have hl : (hp0 n).q.length = n := by simp [hp0]
  refine ⟨?_, ?_, fun i hi => ?_, fun i hi => ?_, fun i j g hi hj e h1 h2 => ?_, OwG.nil _ _ _ _ _, OwG.nil _ _ _ _ _, .inl rfl, .inr (.inl rfl), fun i g hi hg => ?_, (fun g hg => by cases hg), (fun g hg => by cases hg), fun x hx => ?_, by rw [hl]; exact h16⟩
  · rw [hl]; exact h.ha
  · exact h.qt
  · rw [hl] at hi; exact h.qd i hi
  · have hi2 : i < n := by rw [hl] at hi; exact hi
    have e : (hp0 n).q[i] = [(i, (i : Int), false)] := by simp [hp0]
    rw [e]
    exact (h.ea i hi2).op.down (Nat.zero_le _)
  · rw [hl] at hi hj
    have e1 : (f i).pb = g := Option.some.inj h1
    have e2 : (f j).pb = g := Option.some.inj h2
    have := (h.ea i hi).o3
    have := (h.ea j hj).o3
    rcases Nat.lt_or_gt_of_ne e with e | e
    · have := (h.oo i j e hj).1; omega
    · have := (h.oo j i e hi).1; omega
  · rw [hl] at hi
    exact .inr (.inr ⟨i, hi, (Option.some.inj hg : (f i).pb = g).symm⟩)
  · have hm := h.ms
    rcases hx with e | e | ⟨j, hj, e⟩
    · rw [e]; have := h.hm; omega
    · rw [e]; have := h.qm; omega
    · rw [e]; exact (h.ea j hj).o4
theorem La.dis (h : La w0 wr M L S bb hb qb n ts f n tv tp) (wd : Nat) : ∀ y, fH hb qb n f y → ¬ fB (bdOf L n wd ts f) y := by
  have hh := h.hm
  have hq := h.qm
  intro y hy hB
  have pb_ne : ∀ j, j < n → M ≤ (f j).pb := fun j hj => by have := (h.ea j hj).o1; have := (h.ea j hj).o3; omega
  rcases hB with e | ⟨i, hi, e | e⟩
  · rcases hy with e2 | e2 | ⟨j, hj, e2⟩
    · exact h.d1 (e2 ▸ e)
    · exact h.d2 (e2 ▸ e)
    · have := (h.lm y e).2
      have := pb_ne j hj
      omega
  · have e' : y = (f i).T := e
    have h1 := (h.ea i hi).o1
    have h3 := (h.ea i hi).o3
    rcases hy with e2 | e2 | ⟨j, hj, e2⟩
    · omega
    · omega
    · have hj3 := (h.ea j hj).o3
      by_cases e3 : i = j
      · subst e3; omega
      · rcases Nat.lt_or_gt_of_ne e3 with e3 | e3
        · have := (h.oo i j e3 hj).1; omega
        · have := (h.oo j i e3 hi).1; omega
  · have ho := (iaOf_own (h.ea i hi).oi).2 y e
    have h1 := (h.ea i hi).o2 y ho
    have h3 := (h.ea i hi).o3
    rcases hy with e2 | e2 | ⟨j, hj, e2⟩
    · omega
    · omega
    · have hj3 := (h.ea j hj).o3
      by_cases e3 : i = j
      · subst e3; omega
      · rcases Nat.lt_or_gt_of_ne e3 with e3 | e3
        · have := (h.oo i j e3 hj).1; omega
        · have := (h.oo j i e3 hi).2 y ho; omega
end Go.Proofs.YtdpebhdjcgiboaaGreat
