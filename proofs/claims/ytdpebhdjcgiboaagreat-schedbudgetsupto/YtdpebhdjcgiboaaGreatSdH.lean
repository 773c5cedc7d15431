import Derived.Test.YtdpebhdjcgiboaaGreatSdD
import Derived.Lib.SliceRun
import Derived.Handy
namespace Go.Proofs.YtdpebhdjcgiboaaGreat
set_option linter.unusedSimpArgs false
open Go.ChangeShapes Go.WideShapes Go.ChangeAt Go.RowKit Go.MuLone Go.RwLone
set_option linter.unusedVariables false
set_option maxRecDepth 100000
set_option maxHeartbeats 3200000
/-- An event's cells; a thread's. -/
def evC (x : Int × Int × Int × Int) : List Value := [.int .i64 x.1, .int .i64 x.2.1, .int .i64 x.2.2.1, .int .i64 x.2.2.2]
def thC (t : Nat) : List Value := [.pointer (some ⟨t, 0, none⟩)]
theorem infoEv : (Tryz.prog.info? 36).map (fun i => (i.zero, i.size, i.bytes)) = some (some (.agg #[.int .i64 0, .int .i64 0, .int .i64 0, .int .i64 0]), 4, 32) := by kernel_rfl
theorem infoTh : (Tryz.prog.info? 31).map (fun i => (i.zero, i.size, i.bytes)) = some (some (.pointer none), 1, 8) := by kernel_rfl
abbrev OwE (w : World) (B : Nat) (v : Value) (xs : List (Int × Int × Int × Int)) : Prop := OwG evC 36 4 w B v xs
abbrev OwT (w : World) (B : Nat) (v : Value) (xs : List Nat) : Prop := OwG thC 31 1 w B v xs
theorem rec_any (w : World) (hb qb n : Nat) (pb ln cp : Nat → Nat) (st : Int) (ev en : Value) (B i : Nat) (k tg : Int) (es : List (Int × Int × Int × Int)) (hi : i < n) (h : Hr w hb qb n pb ln cp st ev en) (hl : 1 ≤ ln i) (hp : w.cell? ⟨pb i, 1, none⟩ = some (.int .i64 tg)) (he : OwE w B ev es)
    (b1 : hb < B) (b2 : qb < B) (b3 : pb i < B) (b4 : B ≤ w.heap.size) (b5 : hb ≠ pb i) (hlen : es.length ≤ 1000) :
    Calls Tryz.prog 151 #[.pointer (some ⟨hb, 0, none⟩), .int .i64 k, .int .i64 (i : Int)] w fun e w' => e = .returned (.tuple #[]) ∧ ∃ v, Hr w' hb qb n pb ln cp st v en ∧ OwE w' B v (es ++ [(k, (i : Int), tg, st)]) ∧ Keeps (fun x => x = hb ∨ B ≤ x) w w' ∧ (∀ u xs, OwT w B u xs → OwT w' B u xs) ∧ ∀ (k : Nat) (c : Array Value) (t : TypeId) (f : Nat × Nat), B ≤ k → w.heap[k]? = some (.cells c t f) → t ≠ 36 → w'.heap[k]? = w.heap[k]? := by
  have H : Hid (Hr w hb qb n pb ln cp st ev en ∧ OwE w B ev es) := ⟨h, he⟩
  have h0 : (0 : Int) ≤ (i : Int) := Int.natCast_nonneg _
  have h1 : (i : Int) < (n : Int) := by omega
  have l1 : (0 : Int) < (ln i : Int) := by omega
  obtain ⟨ea, ec, hev⟩ := he.form
  have cE : w.drew.cell? ⟨hb, 2, none⟩ = some (.slice ea es.length ec) := by rw [← hev]; exact h.e
  have HS : Hid (w.drew.cell? ⟨hb, 0, none⟩ = some (.slice (some ⟨qb, 0, none⟩) n n) ∧ w.drew.cell? ⟨hb, 1, none⟩ = some (.int .i64 st) ∧ w.drew.cell? ⟨qb, i, none⟩ = some (.slice (some ⟨pb i, 0, none⟩) (ln i) (cp i)) ∧ w.drew.cell? ⟨pb i, 1, none⟩ = some (.int .i64 tg)) := ⟨h.q, h.s, h.r i hi, hp⟩
  have HA : Hid (∀ o : Obj, (w.drew.alloc o).cell? ⟨hb, 0, none⟩ = some (.slice (some ⟨qb, 0, none⟩) n n) ∧ (w.drew.alloc o).cell? ⟨hb, 1, none⟩ = some (.int .i64 st) ∧ (w.drew.alloc o).cell? ⟨qb, i, none⟩ = some (.slice (some ⟨pb i, 0, none⟩) (ln i) (cp i)) ∧ (w.drew.alloc o).cell? ⟨pb i, 1, none⟩ = some (.int .i64 tg)) := fun o =>
    have e : ∀ g j, g < B → (w.drew.alloc o).cell? ⟨g, j, none⟩ = w.cell? ⟨g, j, none⟩ := fun g j hg => World.cell?_of_block (w := w) (Below.heap_alloc w.drew o g (Nat.lt_of_lt_of_le hg b4))
    ⟨(e _ _ b1).trans h.q, (e _ _ b1).trans h.s, (e _ _ b2).trans (h.r i hi), (e _ _ b3).trans hp⟩
  have cE2 : (w.alloc (.cells #[.int .i64 k, .int .i64 (i : Int), .int .i64 tg, .int .i64 st] 36)).cell? ⟨hb, 2, none⟩ = some (.slice ea es.length ec) := by rw [← hev]; exact (World.cell?_of_block (w := w) (Below.heap_alloc w _ hb (Nat.lt_of_lt_of_le b1 b4))).trans h.e
  have HO : Hid (OwE w.drew B (.slice ea es.length ec) es) := by rw [← hev]; exact he.later (Below.refl _ _).drew
  clear h he hp
  go_enter Tryz.func151, Tryz.ntmps151
  go_wp2_with fail
  (refine wp_region_held_drew (S := (fun W => W.cell? ⟨hb, 0, none⟩ = some (.slice (some ⟨qb, 0, none⟩) n n) ∧ W.cell? ⟨hb, 1, none⟩ = some (.int .i64 st) ∧ W.cell? ⟨qb, i, none⟩ = some (.slice (some ⟨pb i, 0, none⟩) (ln i) (cp i)) ∧ W.cell? ⟨pb i, 1, none⟩ = some (.int .i64 tg))) (by kernel_rfl) HS.out (fun hHeld => ?_); simp only [List.size_toArray, List.length_cons, List.length_nil, Nat.reduceAdd, Array.replicate_succ, Array.replicate_zero, List.push_toArray, List.append_toArray, List.nil_append, List.cons_append])
  refine rgT 0 (h := ?_)
  refine rgT 1 (h := ?_)
  refine rgT 2 (h := ?_)
  refine rgT 3 (h := ?_)
  refine rgT 5 (h := ?_)
  refine rgT 6 (h := ?_)
  refine rgT 7 (h := ?_)
  refine rgT 8 (h := ?_)
  refine rgT 9 (h := ?_)
  refine rgT 10 (h := ?_)
  refine rgT 11 (h := ?_)
  refine rgT 12 (h := ?_)
  refine rgT 13 (h := ?_)
  refine rgT 14 (h := ?_)
  refine rgT 15 (h := ?_)
  refine rgT 16 (h := ?_)
  refine rgT 17 (h := ?_)
  refine rgT 18 (h := ?_)
  refine rgT 19 (h := ?_)
  refine rgT 20 (h := ?_)
  refine rgT 21 (h := ?_)
  (refine wpAnyH_ready (rs := [4, 22]) (by kernel_rfl) (by simp) ?_; refine rgA 4 (by rfl) (fun K hK => ?_) (rgA 22 (by rfl) (fun K hK => ?_) AllReadyH.nil) <;> go_simp)
  (refine hK.out _ _ HS.out (fun hHeld => ?_); clear hK K; try simp only [Act.put, List.setIfInBounds_toArray, List.set_cons_zero, List.set_cons_succ])
  (refine rgS 22 (h := fun K hK => ?_); go_simp)
  (refine hK.out _ _ (HA.out _) (fun hHeld => ?_); clear hK K; try simp only [Act.put, List.setIfInBounds_toArray, List.set_cons_zero, List.set_cons_succ])
  rotate_left 1
  (refine hK.out _ _ (HA.out _) (fun hHeld => ?_); clear hK K; try simp only [Act.put, List.setIfInBounds_toArray, List.set_cons_zero, List.set_cons_succ])
  (refine rgS 4 (h := fun K hK => ?_); go_simp)
  (refine hK.out _ _ (HA.out _) (fun hHeld => ?_); clear hK K; try simp only [Act.put, List.setIfInBounds_toArray, List.set_cons_zero, List.set_cons_succ])
  all_goals
    clear cE cE2
    (refine rgS 23 (h := fun K hK => ?_); rw [if_pos (by rfl)])
    refine app_one_wp (cs := evC) (wr := w.drew) (.tmp 10) (.tmp 28) 33 36 (by rfl) Tryz.underlying33 infoEv rfl (by decide) (fun _ => rfl) B _ es (k, (i : Int), tg, st) (HO.out) (by rfl) w.heap.size rfl (by rfl) (by intro u hu; simp [evC] at hu; rcases hu with rfl | rfl | rfl | rfl <;> rfl) _ rfl (by unfold maxLen; omega) (by omega) b4 ?_
    intro v' w5 ho hbl hkp
    obtain ⟨va, vc, rfl⟩ := ho.form
    generalize (es ++ [(k, (i : Int), tg, st)]).length = mm at *
    have K5 : Keeps (fun x => B ≤ x) w w5 := ⟨hbl.os, hbl.tape, hbl.output, hbl.size, fun k hk hn => hbl.block k (by omega)⟩
    have H5 : Hid (Hr w5 hb qb n pb ln cp st ev en ∧ w5.cell? ⟨pb i, 1, none⟩ = some (.int .i64 tg)) := ⟨H.out.1.keeps K5 (by omega) (by omega), (K5.cell (p := ⟨pb i, 1, none⟩) (Nat.lt_of_lt_of_le b3 b4) (by show ¬ B ≤ pb i; omega)).trans HS.out.2.2.2⟩
    have H6 : Hid (Hr (w5.setCell ⟨hb, 2, none⟩ (.slice va mm vc)) hb qb n pb ln cp st (.slice va mm vc) en ∧ (w5.setCell ⟨hb, 2, none⟩ (.slice va mm vc)).cell? ⟨pb i, 1, none⟩ = some (.int .i64 tg)) := ⟨H5.out.1.setE _, (World.cell?_setCell_other _ _ _ _ (fun e => b5 (congrArg Addr.block e))).trans H5.out.2⟩
    have HX : Hid (OwE (w5.setCell ⟨hb, 2, none⟩ (.slice va mm vc)) B (.slice va mm vc) (es ++ [(k, (i : Int), tg, st)]) ∧ Keeps (fun x => x = hb ∨ B ≤ x) w (w5.setCell ⟨hb, 2, none⟩ (.slice va mm vc)) ∧ (∀ u xs, OwT w B u xs → OwT (w5.setCell ⟨hb, 2, none⟩ (.slice va mm vc)) B u xs) ∧ ∀ (k : Nat) (c : Array Value) (t : TypeId) (f : Nat × Nat), B ≤ k → w.heap[k]? = some (.cells c t f) → t ≠ 36 → (w5.setCell ⟨hb, 2, none⟩ (.slice va mm vc)).heap[k]? = w.heap[k]?) := ⟨ho.set (p := ⟨hb, 2, none⟩) b1 _, (K5.mono (fun _ e => .inr e)).setCell (.inl rfl) _, fun u xs hu => (OwG.kept (hu.later ((Below.refl _ _).drew)) hkp (by decide)).set (p := ⟨hb, 2, none⟩) b1 _, fun k c t f hk hc ht => (Below.heap_setCell _ _ _ _ (by show k ≠ hb; omega)).trans (hkp k c t f hc ht)⟩
    have cE5 : w5.cell? ⟨hb, 2, none⟩ = some ev := H5.out.1.e
    have fE5 := H5.out.1.fh 2
    clear ho hbl hkp K5 HO HA
    (refine hK.out _ _ ⟨H5.out.1.q, H5.out.1.s, H5.out.1.r i hi, H5.out.2⟩ (fun hHeld => ?_); clear hK K; try simp only [Act.put, List.setIfInBounds_toArray, List.set_cons_zero, List.set_cons_succ])
    refine rgT 24 (h := ?_)
    refine rgT 25 (h := ?_)
    (refine rgS 26 (h := fun K hK => ?_); go_simp)
    (refine hK.out _ _ ⟨H6.out.1.q, H6.out.1.s, H6.out.1.r i hi, H6.out.2⟩ (fun hHeld => ?_); clear hK K; try simp only [Act.put, List.setIfInBounds_toArray, List.set_cons_zero, List.set_cons_succ])
    refine wpAnyH_done (by kernel_rfl) ?_ _
    exact ⟨rfl, .tuple #[], by simp [results, Tryz.results151], rfl, _, H6.out.1, HX.out.1, HX.out.2.1, HX.out.2.2.1, HX.out.2.2.2⟩
end Go.Proofs.YtdpebhdjcgiboaaGreat

namespace Go.Proofs.YtdpebhdjcgiboaaGreat
set_option linter.unusedSimpArgs false
open Go.ChangeShapes Go.WideShapes Go.ChangeAt Go.RowKit Go.MuLone Go.RwLone
set_option linter.unusedVariables false
set_option maxRecDepth 100000
set_option maxHeartbeats 3200000
theorem infoPl : (Tryz.prog.info? 174).map (fun i => (i.zero, i.size, i.bytes)) = some (some (.agg #[.pointer none, .int .i64 0, .bool false]), 3, 24) := by kernel_rfl
theorem clear_pl (w : World) (P cap : Nat) (u0 u1 u2 : Value) (h0 : w.cell? ⟨P, 0, none⟩ = some u0) (h1 : w.cell? ⟨P, 1, none⟩ = some u1) (h2 : w.cell? ⟨P, 2, none⟩ = some u2) (hz : ∀ j, w.frozen? ⟨P, j, none⟩ = false) :
    Sem.run Tryz.prog (Builtin.clear_ #[120] 0 #[.slice (some ⟨P, 0, none⟩) 1 cap]) w = .ok (.tuple #[]) (w.setCells P 0 [.pointer none, .int .i64 0, .bool false]) := by
  obtain ⟨i0, hi, hz0, hz1, hz2⟩ := info_parts infoPl
  have hst := run_storeCells_cells (P := Tryz.prog) P 0 [.pointer none, .int .i64 0, .bool false] 0 w (by intro j hj; simp at hj; match j, hj with | 0, _ => simp [h0] | 1, _ => simp [h1] | 2, _ => simp [h2]) (by intro j hj; exact hz _) (by intro v hv; simp at hv; rcases hv with rfl | rfl | rfl <;> rfl)
  simp only [Nat.add_zero] at hst
  have hzc : (Builtin.zeroCells #[.pointer none, .int .i64 0, .bool false] 1).toList = [.pointer none, .int .i64 0, .bool false] := by simp [Builtin.zeroCells, Array.range, Array.ofFn]; rfl
  simp [Builtin.clear_, run_underlying Tryz.underlying120, zeroValue, typeInfo, hi, hz0, hzc, hst, Value.cells]
theorem Keeps.setCells {B : Nat → Prop} {a w : World} (h : Keeps B a w) {b : Nat} (hp : B b) (o : Nat) (us : List Value) : Keeps B a (w.setCells b o us) := by
  induction us generalizing w o with
  | nil => exact h
  | cons u us ih => exact ih (h.setCell (p := ⟨b, o, none⟩) hp u) (o + 1)
theorem del_one (w : World) (P cap : Nat) (u0 u1 u2 : Value) (h0 : w.cell? ⟨P, 0, none⟩ = some u0) (h1 : w.cell? ⟨P, 1, none⟩ = some u1) (h2 : w.cell? ⟨P, 2, none⟩ = some u2) (hz : ∀ j, w.frozen? ⟨P, j, none⟩ = false) (hc : 1 ≤ cap) (hm : cap ≤ 9223372036854775807) :
    Calls Tryz.prog 152 #[.slice (some ⟨P, 0, none⟩) 1 cap, .int .i64 0, .int .i64 1] w fun e w' => e = .returned (.slice (some ⟨P, 0, none⟩) 0 cap) ∧ Keeps (fun k => k = P) w w' := by
  have HC := clear_pl w.drew P cap u0 u1 u2 h0 h1 h2 hz
  have hc1 : (1 : Int) ≤ (cap : Int) := by omega
  clear hz h0 h1 h2
  go_enter Tryz.func152, Tryz.ntmps152
  go_wp2_with fail
  (refine wp_region_held_drew (S := (fun _ => True)) (by kernel_rfl) trivial (fun hHeld => ?_); simp only [List.size_toArray, List.length_cons, List.length_nil, Nat.reduceAdd, Array.replicate_succ, Array.replicate_zero, List.push_toArray, List.append_toArray, List.nil_append, List.cons_append])
  refine rgT 0 (h := ?_)
  refine rgT 1 (h := ?_)
  refine rgT 2 (h := ?_)
  refine rgT 3 (h := ?_)
  refine rgT 4 (h := ?_)
  refine rgT 5 (h := ?_)
  obtain ⟨x, hx⟩ : ∃ x, (if cap = 1 then some (⟨P, 0, none⟩ : Addr) else some ⟨P, 3, none⟩) = some x := by split <;> exact ⟨_, rfl⟩
  rw [hx]
  (refine rgS 6 (h := fun K hK => ?_); go_simp)
  (refine hK.out _ _ trivial (fun hHeld => ?_); clear hK K; try simp only [Act.put, List.setIfInBounds_toArray, List.set_cons_zero, List.set_cons_succ])
  refine rgT 7 (h := ?_)
  refine wpAnyH_done (by kernel_rfl) ?_ _
  clear hx
  go_wp2
  go_ret
  exact ⟨rfl, Keeps.setCells (B := fun k => k = P) (Keeps.refl _ _).drew rfl 0 _⟩
end Go.Proofs.YtdpebhdjcgiboaaGreat

namespace Go.Proofs.YtdpebhdjcgiboaaGreat
set_option linter.unusedSimpArgs false
open Go.ChangeShapes Go.WideShapes Go.ChangeAt Go.RowKit Go.MuLone Go.RwLone
set_option linter.unusedVariables false
set_option maxRecDepth 100000
set_option maxHeartbeats 3200000
/-- What a step of one thread may touch. -/
def Mv (L : Lay) (T hb qb p B : Nat) (x : Nat) : Prop := L.has x ∨ x = T ∨ x = hb ∨ x = qb ∨ x = p ∨ B ≤ x
/-- The blocks of one queue's thread lie apart. -/
structure Ap (L : Lay) (T ib hb qb p B : Nat) : Prop where
  lb : ∀ k, L.has k → k < B
  bT : T < B
  bi : ib < B
  bh : hb < B
  bq : qb < B
  bp : p < B
  lT : ¬ L.has T
  li : ¬ L.has ib
  lh : ¬ L.has hb
  lq : ¬ L.has qb
  lp : ¬ L.has p
  Ti : ib ≠ T
  Th : hb ≠ T
  Tq : qb ≠ T
  Tp : p ≠ T
  hq : hb ≠ qb
  hp : hb ≠ p
  qp : qb ≠ p
  ih : ib ≠ hb
  iq : ib ≠ qb
  ip : ib ≠ p
theorem Ap.ins {L : Lay} {T ib hb qb p B : Nat} (a : Ap L T ib hb qb p B) : ¬ Mv L T hb qb p B ib := by
  rintro (h | h | h | h | h | h)
  · exact a.li h
  · exact a.Ti h
  · exact a.ih h
  · exact a.iq h
  · exact a.ip h
  · exact absurd a.bi (by omega)
/-- In the midst of a step of the thread T, which stands first in the queue i. -/
structure Md (w W : World) (B : Nat) (L : Lay) (S : AS) (hb qb n : Nat) (pb ln cp : Nat → Nat) (st : Int) (ev en : Value) (i T ib m cap : Nat) (rg : Nat → Int) (pl : Nat) (tg : Int) (cl : Bool) (es : List (Int × Int × Int × Int)) (ts : List Nat) : Prop where
  k : Keeps (Mv L T hb qb (pb i) B) w W
  hd : Holds W L S
  hr : Hr W hb qb n pb ln cp st ev en
  th : Th W T L ib m cap rg pl
  c0 : W.cell? ⟨pb i, 0, none⟩ = some (.pointer (some ⟨T, 0, none⟩))
  c1 : W.cell? ⟨pb i, 1, none⟩ = some (.int .i64 tg)
  c2 : W.cell? ⟨pb i, 2, none⟩ = some (.bool cl)
  pf : ∀ j, W.frozen? ⟨pb i, j, none⟩ = false
  oe : OwE W B ev es
  ot : OwT W B en ts
  bs : B ≤ W.heap.size
  fr : ∀ (k : Nat) (c : Array Value) (t : TypeId) (f : Nat × Nat), B ≤ k → w.heap[k]? = some (.cells c t f) → t ≠ 36 → t ≠ 31 → W.heap[k]? = w.heap[k]?
section
variable {w W : World} {B : Nat} {L : Lay} {S : AS} {hb qb n : Nat} {pb ln cp : Nat → Nat} {st : Int} {ev en : Value} {i T ib m cap : Nat} {rg : Nat → Int} {pl : Nat} {tg : Int} {cl : Bool} {es : List (Int × Int × Int × Int)} {ts : List Nat}
theorem OwG.keeps {α : Type} {cs : α → List Value} {e : TypeId} {c : Nat} {W W' : World} {B : Nat} {v : Value} {xs : List α} {D : Nat → Prop} (h : OwG cs e c W B v xs) (k : Keeps D W W') (hn : ∀ x, D x → x < B) : OwG cs e c W' B v xs := by
  refine ⟨h.1, ?_⟩
  rcases h.2 with h1 | ⟨g, cap, cur, rfl, h1, h2, h3⟩
  · exact .inl h1
  · exact .inr ⟨g, cap, cur, rfl, h1, (k.block g (Array.getElem?_eq_some_iff.1 h2).1 (fun e => by have := hn g e; omega)).trans h2, h3⟩
theorem Md.fr' {W' : World} {D : Nat → Prop} (h : Md w W B L S hb qb n pb ln cp st ev en i T ib m cap rg pl tg cl es ts) (k : Keeps D W W') (hD : ∀ x, D x → x < B) : ∀ (k : Nat) (c : Array Value) (t : TypeId) (f : Nat × Nat), B ≤ k → w.heap[k]? = some (.cells c t f) → t ≠ 36 → t ≠ 31 → W'.heap[k]? = w.heap[k]? := fun g c t f hg hc h1 h2 => by
  have e := h.fr g c t f hg hc h1 h2
  exact (k.block g (Array.getElem?_eq_some_iff.1 (e.trans hc)).1 (fun x => by have := hD g x; omega)).trans e
/-- A world in which nothing of it was touched. -/
theorem Md.still {W' : World} (a : Ap L T ib hb qb (pb i) B) (h : Md w W B L S hb qb n pb ln cp st ev en i T ib m cap rg pl tg cl es ts) (k : Keeps (fun _ => False) W W') : Md w W' B L S hb qb n pb ln cp st ev en i T ib m cap rg pl tg cl es ts := by
  have lp : pb i < W.heap.size := Nat.lt_of_lt_of_le a.bp h.bs
  exact ⟨h.k.trans (k.mono (fun _ e => e.elim)), h.hd.keeps k (fun _ _ e => e), h.hr.keeps k (fun e => e) (fun e => e), h.th.keeps k (fun e => e), (k.cell (p := ⟨pb i, 0, none⟩) lp (fun e => e)).trans h.c0, (k.cell (p := ⟨pb i, 1, none⟩) lp (fun e => e)).trans h.c1, (k.cell (p := ⟨pb i, 2, none⟩) lp (fun e => e)).trans h.c2, fun j => (k.frozen (p := ⟨pb i, j, none⟩) lp (fun e => e)).trans (h.pf j), h.oe.keeps k (fun _ e => e.elim), h.ot.keeps k (fun _ e => e.elim), Nat.le_trans h.bs k.size, h.fr' k (fun _ e => e.elim)⟩
theorem Md.drew (a : Ap L T ib hb qb (pb i) B) (h : Md w W B L S hb qb n pb ln cp st ev en i T ib m cap rg pl tg cl es ts) : Md w W.drew B L S hb qb n pb ln cp st ev en i T ib m cap rg pl tg cl es ts := h.still a (Keeps.refl _ _).drew
/-- The place is called. -/
theorem Md.call (a : Ap L T ib hb qb (pb i) B) (h : Md w W B L S hb qb n pb ln cp st ev en i T ib m cap rg pl tg cl es ts) : Md w (W.setCell ⟨pb i, 2, none⟩ (.bool true)) B L S hb qb n pb ln cp st ev en i T ib m cap rg pl tg true es ts := by
  have k : Keeps (fun x => x = pb i) W (W.setCell ⟨pb i, 2, none⟩ (.bool true)) := Keeps.setCell (B := fun x => x = pb i) (Keeps.refl _ _) rfl _
  have ne : ∀ j, j ≠ 2 → (W.setCell ⟨pb i, 2, none⟩ (.bool true)).cell? ⟨pb i, j, none⟩ = W.cell? ⟨pb i, j, none⟩ := fun j hj => World.cell?_setCell_other _ _ _ _ (fun e => hj (congrArg Addr.off e).symm)
  exact ⟨h.k.trans (k.mono (fun _ e => .inr (.inr (.inr (.inr (.inl e)))))), h.hd.far (p := ⟨pb i, 2, none⟩) a.lp _, h.hr.keeps k a.hp a.qp, h.th.keeps k (fun e => a.Tp e.symm), (ne 0 (by decide)).trans h.c0, (ne 1 (by decide)).trans h.c1, World.cell?_setCell_same _ _ _ h.c2, fun j => by simpa using h.pf j, h.oe.keeps k (fun x e => by rw [e]; exact a.bp), h.ot.keeps k (fun x e => by rw [e]; exact a.bp), by simpa using h.bs, h.fr' k (fun x e => by rw [e]; exact a.bp)⟩
/-- An event is recorded. -/
theorem Md.event {W' : World} {v : Value} {es' : List (Int × Int × Int × Int)} (a : Ap L T ib hb qb (pb i) B) (h : Md w W B L S hb qb n pb ln cp st ev en i T ib m cap rg pl tg cl es ts) (hr : Hr W' hb qb n pb ln cp st v en) (oe : OwE W' B v es') (k : Keeps (fun x => x = hb ∨ B ≤ x) W W') (ot : ∀ u xs, OwT W B u xs → OwT W' B u xs) (fr : ∀ (k : Nat) (c : Array Value) (t : TypeId) (f : Nat × Nat), B ≤ k → W.heap[k]? = some (.cells c t f) → t ≠ 36 → W'.heap[k]? = W.heap[k]?) : Md w W' B L S hb qb n pb ln cp st v en i T ib m cap rg pl tg cl es' ts := by
  have lp : pb i < W.heap.size := Nat.lt_of_lt_of_le a.bp h.bs
  have np : ¬ (pb i = hb ∨ B ≤ pb i) := by have := a.hp; have := a.bp; omega
  exact ⟨h.k.trans (k.mono (fun _ e => e.elim (fun e => .inr (.inr (.inl e))) (fun e => .inr (.inr (.inr (.inr (.inr e))))))), h.hd.keeps k (fun g hg e => e.elim (fun e => a.lh (e ▸ hg)) (fun e => by have := a.lb g hg; omega)), hr, h.th.keeps k (by have := a.Th; have := a.bT; omega), (k.cell (p := ⟨pb i, 0, none⟩) lp np).trans h.c0, (k.cell (p := ⟨pb i, 1, none⟩) lp np).trans h.c1, (k.cell (p := ⟨pb i, 2, none⟩) lp np).trans h.c2, fun j => (k.frozen (p := ⟨pb i, j, none⟩) lp np).trans (h.pf j), oe, ot _ _ h.ot, Nat.le_trans h.bs k.size, fun g c t f hg hc h1 h2 => (fr g c t f hg ((h.fr g c t f hg hc h1 h2).trans hc) h1).trans (h.fr g c t f hg hc h1 h2)⟩
/-- A cell of the harness is set. -/
theorem Md.steps (a : Ap L T ib hb qb (pb i) B) (h : Md w W B L S hb qb n pb ln cp st ev en i T ib m cap rg pl tg cl es ts) (x : Int) : Md w (W.setCell ⟨hb, 1, none⟩ (.int .i64 x)) B L S hb qb n pb ln cp x ev en i T ib m cap rg pl tg cl es ts := by
  have k : Keeps (fun y => y = hb) W (W.setCell ⟨hb, 1, none⟩ (.int .i64 x)) := Keeps.setCell (B := fun y => y = hb) (Keeps.refl _ _) rfl _
  have lp : pb i < W.heap.size := Nat.lt_of_lt_of_le a.bp h.bs
  have np : ¬ pb i = hb := fun e => a.hp e.symm
  exact ⟨h.k.trans (k.mono (fun _ e => .inr (.inr (.inl e)))), h.hd.far (p := ⟨hb, 1, none⟩) a.lh _, h.hr.setS x, h.th.keeps k (fun e => a.Th e.symm), (k.cell (p := ⟨pb i, 0, none⟩) lp np).trans h.c0, (k.cell (p := ⟨pb i, 1, none⟩) lp np).trans h.c1, (k.cell (p := ⟨pb i, 2, none⟩) lp np).trans h.c2, fun j => by simpa using h.pf j, h.oe.keeps k (fun y e => by rw [e]; exact a.bh), h.ot.keeps k (fun y e => by rw [e]; exact a.bh), by simpa using h.bs, h.fr' k (fun y e => by rw [e]; exact a.bh)⟩
/-- The thread has made its step. -/
theorem Md.work {W' : World} {S' : AS} {rg' : Nat → Int} {pl' : Nat} (a : Ap L T ib hb qb (pb i) B) (h : Md w W B L S hb qb n pb ln cp st ev en i T ib m cap rg pl tg cl es ts) (hd : Holds W' L S') (th : Th W' T L ib m cap rg' pl') (k : Keeps (fun x => L.has x ∨ x = T) W W') : Md w W' B L S' hb qb n pb ln cp st ev en i T ib m cap rg' pl' tg cl es ts := by
  have lp : pb i < W.heap.size := Nat.lt_of_lt_of_le a.bp h.bs
  have np : ¬ (L.has (pb i) ∨ pb i = T) := fun e => e.elim a.lp a.Tp
  have hB : ∀ x, (L.has x ∨ x = T) → x < B := fun x e => e.elim (a.lb x) (fun e => by rw [e]; exact a.bT)
  exact ⟨h.k.trans (k.mono (fun _ e => e.elim .inl (fun e => .inr (.inl e)))), hd, h.hr.keeps k (fun e => e.elim a.lh a.Th) (fun e => e.elim a.lq a.Tq), th, (k.cell (p := ⟨pb i, 0, none⟩) lp np).trans h.c0, (k.cell (p := ⟨pb i, 1, none⟩) lp np).trans h.c1, (k.cell (p := ⟨pb i, 2, none⟩) lp np).trans h.c2, fun j => (k.frozen (p := ⟨pb i, j, none⟩) lp np).trans (h.pf j), h.oe.keeps k hB, h.ot.keeps k hB, Nat.le_trans h.bs k.size, h.fr' k hB⟩
/-- The thread stands among those that have ended. -/
theorem Md.ended {W' : World} {v : Value} {ts' : List Nat} (a : Ap L T ib hb qb (pb i) B) (h : Md w W B L S hb qb n pb ln cp st ev en i T ib m cap rg pl tg cl es ts) (ot : OwT W' B v ts') (hbl : Below B W W') (kp : KpT 31 W W') : Md w (W'.setCell ⟨hb, 3, none⟩ v) B L S hb qb n pb ln cp st ev v i T ib m cap rg pl tg cl es ts' := by
  have K : Keeps (fun x => B ≤ x) W W' := ⟨hbl.os, hbl.tape, hbl.output, hbl.size, fun k hk hn => hbl.block k (by omega)⟩
  have k2 : Keeps (fun x => x = hb ∨ B ≤ x) W (W'.setCell ⟨hb, 3, none⟩ v) := Keeps.setCell (B := fun x => x = hb ∨ B ≤ x) (K.mono (fun _ e => .inr e)) (.inl rfl) _
  have lp : pb i < W.heap.size := Nat.lt_of_lt_of_le a.bp h.bs
  have np : ¬ (pb i = hb ∨ B ≤ pb i) := by have := a.hp; have := a.bp; omega
  exact ⟨h.k.trans (k2.mono (fun _ e => e.elim (fun e => .inr (.inr (.inl e))) (fun e => .inr (.inr (.inr (.inr (.inr e))))))), h.hd.keeps k2 (fun g hg e => e.elim (fun e => a.lh (e ▸ hg)) (fun e => by have := a.lb g hg; omega)), (h.hr.keeps K (by have := a.bh; omega) (by have := a.bq; omega)).setD v, h.th.keeps k2 (by have := a.Th; have := a.bT; omega), (k2.cell (p := ⟨pb i, 0, none⟩) lp np).trans h.c0, (k2.cell (p := ⟨pb i, 1, none⟩) lp np).trans h.c1, (k2.cell (p := ⟨pb i, 2, none⟩) lp np).trans h.c2, fun j => (k2.frozen (p := ⟨pb i, j, none⟩) lp np).trans (h.pf j), (OwG.kept h.oe kp (by decide)).set (p := ⟨hb, 3, none⟩) a.bh _, ot.set (p := ⟨hb, 3, none⟩) a.bh _, Nat.le_trans h.bs k2.size, fun g c t f hg hc h1 h2 => (Below.heap_setCell _ _ _ _ (by show g ≠ hb; have := a.bh; omega)).trans ((kp g c t f ((h.fr g c t f hg hc h1 h2).trans hc) h2).trans (h.fr g c t f hg hc h1 h2))⟩
end
end Go.Proofs.YtdpebhdjcgiboaaGreat

namespace Go.Proofs.YtdpebhdjcgiboaaGreat
set_option linter.unusedSimpArgs false
open Go.ChangeShapes Go.WideShapes Go.ChangeAt Go.RowKit Go.MuLone Go.RwLone
set_option linter.unusedVariables false
set_option maxRecDepth 100000
set_option maxHeartbeats 3200000
theorem hstep_swap (w : World) (B : Nat) (L : Lay) (S : AS) (hb qb n : Nat) (pb ln cp : Nat → Nat) (st : Int) (ev en : Value) (i T ib cap : Nat) (rg : Nat → Int) (j r : Nat) (ni oi nn : Int) (tg : Int) (es : List (Int × Int × Int × Int)) (ts : List Nat) (b : Bool) (wo : Nat → Int) (HB : Hid (b = decide (S.word j = oi) ∧ wo = if S.word j = oi then upd S.word j ni else S.word))
    (a : Ap L T ib hb qb (pb i) B) (h : Md w w B L S hb qb n pb ln cp st ev en i T ib 1 cap rg 0 tg false es ts) (hin : In8 w ib 0 3 j r (-1) ni (-1) oi nn) (hi : i < n) (hl : ln i = 1) (hc : 1 ≤ cp i ∧ cp i ≤ 9223372036854775807) (hr : S.rc = 0) (hn : S.n = 1) (hu : S.use 0 = true) (hj : j < S.wd) (hr4 : r < 4) (he : es.length ≤ 900) (ht : ts.length ≤ 900) :
    Calls Tryz.prog 113 #[.pointer (some ⟨hb, 0, none⟩), .int .i64 (i : Int)] w fun e w' => e = .returned (.bool true) ∧ ∃ ev' en', Keeps (Mv L T hb qb (pb i) B) w w' ∧ Holds w' L { S with rc := 0, acc := wrap64 (S.acc + 1), word := wo } ∧ Hr w' hb qb n pb (upd ln i 0) cp (wrap64 (st + 1)) ev' en' ∧ Th w' T L ib 1 cap (upd rg r (bitI b)) 1 ∧ OwE w' B ev' (es ++ [(1, (i : Int), tg, st)] ++ [(2, (i : Int), tg, wrap64 (st + 1))]) ∧ OwT w' B en' (ts ++ [T]) ∧ B ≤ w'.heap.size ∧ ∀ (k : Nat) (c : Array Value) (t : TypeId) (f : Nat × Nat), B ≤ k → w.heap[k]? = some (.cells c t f) → t ≠ 36 → t ≠ 31 → w'.heap[k]? = w.heap[k]? := by
  have HI : Hid (In8 w ib 0 3 j r (-1) ni (-1) oi nn) := hin
  have H : Hid (Md w w B L S hb qb n pb ln cp st ev en i T ib 1 cap rg 0 tg false es ts) := h
  have HA : Hid (Ap L T ib hb qb (pb i) B) := a
  have cq := h.hr.q
  have cr := h.hr.r i hi
  have c2 := h.c2
  have f2 := h.pf 2
  have h0 : (0 : Int) ≤ (i : Int) := Int.natCast_nonneg _
  have h1 : (i : Int) < (n : Int) := by omega
  have hl1 : (0 : Int) < (ln i : Int) := by omega
  clear h hin a
  go_enter Tryz.func113, Tryz.ntmps113
  go_wp2_with fail
  have H1 : Hid (Md w (w.setCell ⟨pb i, 2, none⟩ (.bool true)) B L S hb qb n pb ln cp st ev en i T ib 1 cap rg 0 tg true es ts) := H.out.call HA.out
  clear H cq cr c2 f2
  generalize w.setCell ⟨pb i, 2, none⟩ (.bool true) = W1 at *
  refine (rec_any W1 hb qb n pb ln cp st ev en B i 1 tg es hi H1.out.hr (by omega) H1.out.c1 H1.out.oe HA.out.bh HA.out.bq HA.out.bp H1.out.bs HA.out.hp (by omega)).mono ?_
  rintro e W2 ⟨rfl, ev2, hr2, oe2, k2, ot2, fr2⟩
  have H2 : Hid (Md w W2 B L S hb qb n pb ln cp st ev2 en i T ib 1 cap rg 0 tg true (es ++ [(1, (i : Int), tg, st)]) ts) := H1.out.event HA.out hr2 oe2 k2 ot2 fr2
  clear H1 hr2 oe2 k2 ot2 fr2
  have cs := H2.out.hr.s
  have fs := H2.out.hr.fh 1
  have hws : IntKind.i64.wrap (st + 1) = wrap64 (st + 1) := by rw [IntKind.wrap_i64]; unfold wrap64; omega
  have c0 : (W2.setCell ⟨hb, 1, none⟩ (.int .i64 (wrap64 (st + 1)))).cell? ⟨pb i, 0, none⟩ = some (.pointer (some ⟨T, 0, none⟩)) := (H2.out.steps HA.out (wrap64 (st + 1))).c0
  have H3 : Hid (Md w (W2.setCell ⟨hb, 1, none⟩ (.int .i64 (wrap64 (st + 1)))) B L S hb qb n pb ln cp (wrap64 (st + 1)) ev2 en i T ib 1 cap rg 0 tg true (es ++ [(1, (i : Int), tg, st)]) ts) := H2.out.steps HA.out _
  clear H2
  go_wp2_with fail
  clear cs fs hws c0
  generalize W2.setCell ⟨hb, 1, none⟩ (.int .i64 (wrap64 (st + 1))) = W3 at *
  refine (step_swap L S W3 T ib 1 cap rg 0 j r ni oi nn b wo HB H3.out.hd H3.out.th (HI.out.keeps H3.out.k HA.out.ins) HA.out.lT (fun e => e.elim HA.out.li HA.out.Ti) hr hn hu hj hr4 (by omega) (by omega)).mono ?_
  rintro e W4 ⟨rfl, hd4, th4, k4⟩
  have H4 : Hid (Md w W4 B L { S with rc := 0, acc := wrap64 (S.acc + 1), word := wo } hb qb n pb ln cp (wrap64 (st + 1)) ev2 en i T ib 1 cap (upd rg r (bitI b)) 1 tg true (es ++ [(1, (i : Int), tg, st)]) ts) := H3.out.work HA.out hd4 th4 k4
  clear H3 hd4 th4 k4 HB HI
  rw [show decide (1 ≤ 0 + 1) = true from rfl]
  go_wp2_with fail
  refine (rec_any W4 hb qb n pb ln cp (wrap64 (st + 1)) ev2 en B i 2 tg _ hi H4.out.hr (by omega) H4.out.c1 H4.out.oe HA.out.bh HA.out.bq HA.out.bp H4.out.bs HA.out.hp (by simp; omega)).mono ?_
  rintro e W5 ⟨rfl, ev5, hr5, oe5, k5, ot5, fr5⟩
  have H5 : Hid (Md w W5 B L { S with rc := 0, acc := wrap64 (S.acc + 1), word := wo } hb qb n pb ln cp (wrap64 (st + 1)) ev5 en i T ib 1 cap (upd rg r (bitI b)) 1 tg true (es ++ [(1, (i : Int), tg, st)] ++ [(2, (i : Int), tg, wrap64 (st + 1))]) ts) := H4.out.event HA.out hr5 oe5 k5 ot5 fr5
  clear H4 hr5 oe5 k5 ot5 fr5
  go_wp2_with fail
  obtain ⟨ta, tc, hen⟩ := H5.out.ot.form
  have cT : W5.drew.cell? ⟨hb, 3, none⟩ = some (.slice ta ts.length tc) := by rw [← hen]; exact H5.out.hr.d
  have cT2 : (W5.alloc (.cells #[.pointer (some ⟨T, 0, none⟩)] 31)).cell? ⟨hb, 3, none⟩ = some (.slice ta ts.length tc) := by rw [← hen]; exact (World.cell?_of_block (w := W5) (Below.heap_alloc W5 _ hb (Nat.lt_of_lt_of_le HA.out.bh H5.out.bs))).trans H5.out.hr.d
  have HO : Hid (OwT W5.drew B (.slice ta ts.length tc) ts) := by rw [← hen]; exact (H5.out.drew HA.out).ot
  have HP : Hid (∀ o : Obj, (W5.drew.alloc o).cell? ⟨pb i, 0, none⟩ = some (.pointer (some ⟨T, 0, none⟩))) := fun o => (World.cell?_of_block (w := W5) (Below.heap_alloc W5.drew o (pb i) (Nat.lt_of_lt_of_le HA.out.bp H5.out.bs))).trans H5.out.c0
  clear hen
  (refine wp_region_held_drew (S := (fun W => W.cell? ⟨pb i, 0, none⟩ = some (.pointer (some ⟨T, 0, none⟩)))) (by kernel_rfl) H5.out.c0 (fun hHeld => ?_); simp only [List.size_toArray, List.length_cons, List.length_nil, Nat.reduceAdd, Array.replicate_succ, Array.replicate_zero, List.push_toArray, List.append_toArray, List.nil_append, List.cons_append])
  refine rgT 0 (h := ?_)
  refine rgT 1 (h := ?_)
  refine rgT 2 (h := ?_)
  refine rgT 3 (h := ?_)
  refine rgT 5 (h := ?_)
  refine rgT 6 (h := ?_)
  refine rgT 7 (h := ?_)
  refine rgT 8 (h := ?_)
  (refine wpAnyH_ready (rs := [4, 9]) (by kernel_rfl) (by simp) ?_; refine rgA 4 (by rfl) (fun K hK => ?_) (rgA 9 (by rfl) (fun K hK => ?_) AllReadyH.nil) <;> go_simp)
  (refine hK.out _ _ H5.out.c0 (fun hHeld => ?_); clear hK K; try simp only [Act.put, List.setIfInBounds_toArray, List.set_cons_zero, List.set_cons_succ])
  (refine rgS 9 (h := fun K hK => ?_); go_simp)
  (refine hK.out _ _ (HP.out _) (fun hHeld => ?_); clear hK K; try simp only [Act.put, List.setIfInBounds_toArray, List.set_cons_zero, List.set_cons_succ])
  rotate_left 1
  (refine hK.out _ _ (HP.out _) (fun hHeld => ?_); clear hK K; try simp only [Act.put, List.setIfInBounds_toArray, List.set_cons_zero, List.set_cons_succ])
  (refine rgS 4 (h := fun K hK => ?_); go_simp)
  (refine hK.out _ _ (HP.out _) (fun hHeld => ?_); clear hK K; try simp only [Act.put, List.setIfInBounds_toArray, List.set_cons_zero, List.set_cons_succ])
  all_goals
    clear cT cT2
    (refine rgS 10 (h := fun K hK => ?_); rw [if_pos (by rfl)])
    refine app_one_wp (cs := thC) (wr := W5.drew) (.tmp 46) (.tmp 51) 42 31 (by rfl) Tryz.underlying42 infoTh rfl (by decide) (fun _ => rfl) B _ ts T HO.out (by rfl) W5.heap.size rfl (by rfl) (by intro u hu; simp [thC] at hu; subst hu; rfl) _ rfl (by unfold maxLen; omega) (by omega) H5.out.bs ?_
    intro v' W6 ho hbl hkp
    obtain ⟨va, vc, rfl⟩ := ho.form
    generalize (ts ++ [T]).length = mm at *
    have H6 : Hid (Md w (W6.setCell ⟨hb, 3, none⟩ (.slice va mm vc)) B L { S with rc := 0, acc := wrap64 (S.acc + 1), word := wo } hb qb n pb ln cp (wrap64 (st + 1)) ev5 (.slice va mm vc) i T ib 1 cap (upd rg r (bitI b)) 1 tg true (es ++ [(1, (i : Int), tg, st)] ++ [(2, (i : Int), tg, wrap64 (st + 1))]) (ts ++ [T])) := (H5.out.drew HA.out).ended HA.out ho hbl hkp
    have e6 : ∀ g k, g < B → W6.cell? ⟨g, k, none⟩ = W5.cell? ⟨g, k, none⟩ := fun g k hg => World.cell?_of_block (w := W5) (hbl.block g hg)
    have c6 : W6.cell? ⟨pb i, 0, none⟩ = some (.pointer (some ⟨T, 0, none⟩)) := (e6 _ _ HA.out.bp).trans H5.out.c0
    have d6 : W6.cell? ⟨hb, 3, none⟩ = some en := (e6 _ _ HA.out.bh).trans H5.out.hr.d
    have f6 : W6.frozen? ⟨hb, 3, none⟩ = false := (World.frozen?_of_block (w := W5) (hbl.block hb HA.out.bh)).trans (H5.out.hr.fh 3)
    clear e6 ho hbl hkp HO HP H5
    (refine hK.out _ _ c6 (fun hHeld => ?_); clear hK K; try simp only [Act.put, List.setIfInBounds_toArray, List.set_cons_zero, List.set_cons_succ])
    refine rgT 11 (h := ?_)
    refine rgT 12 (h := ?_)
    (refine rgS 13 (h := fun K hK => ?_); go_simp)
    (refine hK.out _ _ H6.out.c0 (fun hHeld => ?_); clear hK K; try simp only [Act.put, List.setIfInBounds_toArray, List.set_cons_zero, List.set_cons_succ])
    refine wpAnyH_done (by kernel_rfl) ?_ _
    clear c6 d6 f6
    generalize W6.setCell ⟨hb, 3, none⟩ (.slice va mm vc) = W7 at *
    go_wp2_with fail
    (refine wp_region_held_drew (S := (fun W => W.cell? ⟨hb, 0, none⟩ = some (.slice (some ⟨qb, 0, none⟩) n n))) (by kernel_rfl) H6.out.hr.q (fun hHeld => ?_); simp only [List.size_toArray, List.length_cons, List.length_nil, Nat.reduceAdd, Array.replicate_succ, Array.replicate_zero, List.push_toArray, List.append_toArray, List.nil_append, List.cons_append])
    refine rgT 0 (h := ?_)
    refine rgT 1 (h := ?_)
    refine rgT 2 (h := ?_)
    refine rgT 3 (h := ?_)
    refine rgT 4 (h := ?_)
    refine rgT 5 (h := ?_)
    refine rgT 6 (h := ?_)
    refine rgT 7 (h := ?_)
    refine rgT 8 (h := ?_)
    refine rgT 9 (h := ?_)
    refine rgT 10 (h := ?_)
    have cr7 : W7.drew.cell? ⟨qb, i, none⟩ = some (.slice (some ⟨pb i, 0, none⟩) 1 (cp i)) := by rw [← hl]; exact H6.out.hr.r i hi
    (refine rgS 11 (h := fun K hK => ?_); go_simp)
    (refine hK.out _ _ H6.out.hr.q (fun hHeld => ?_); clear hK K; try simp only [Act.put, List.setIfInBounds_toArray, List.set_cons_zero, List.set_cons_succ])
    clear cr7
    (refine rgS 12 (h := fun K hK => ?_); go_simp)
    refine (del_one W7.drew (pb i) (cp i) _ _ _ H6.out.c0 H6.out.c1 H6.out.c2 H6.out.pf hc.1 hc.2).mono ?_
    rintro e W8 ⟨rfl, k8⟩
    have k8' : Keeps (fun k => k = pb i) W7 W8 := (Keeps.refl _ _).drew.trans k8
    have kq : Keeps (fun k => k = qb) W8 (W8.setCell ⟨qb, i, none⟩ (.slice (some ⟨pb i, 0, none⟩) 0 (cp i))) := Keeps.setCell (B := fun k => k = qb) (Keeps.refl _ _) rfl _
    have HF : Hid (Keeps (Mv L T hb qb (pb i) B) w (W8.setCell ⟨qb, i, none⟩ (.slice (some ⟨pb i, 0, none⟩) 0 (cp i))) ∧ Holds (W8.setCell ⟨qb, i, none⟩ (.slice (some ⟨pb i, 0, none⟩) 0 (cp i))) L { S with rc := 0, acc := wrap64 (S.acc + 1), word := wo } ∧ Hr (W8.setCell ⟨qb, i, none⟩ (.slice (some ⟨pb i, 0, none⟩) 0 (cp i))) hb qb n pb (upd ln i 0) cp (wrap64 (st + 1)) ev5 (.slice va mm vc) ∧ Th (W8.setCell ⟨qb, i, none⟩ (.slice (some ⟨pb i, 0, none⟩) 0 (cp i))) T L ib 1 cap (upd rg r (bitI b)) 1 ∧ OwE (W8.setCell ⟨qb, i, none⟩ (.slice (some ⟨pb i, 0, none⟩) 0 (cp i))) B ev5 (es ++ [(1, (i : Int), tg, st)] ++ [(2, (i : Int), tg, wrap64 (st + 1))]) ∧ OwT (W8.setCell ⟨qb, i, none⟩ (.slice (some ⟨pb i, 0, none⟩) 0 (cp i))) B (.slice va mm vc) (ts ++ [T]) ∧ B ≤ (W8.setCell ⟨qb, i, none⟩ (.slice (some ⟨pb i, 0, none⟩) 0 (cp i))).heap.size ∧ ∀ (k : Nat) (c : Array Value) (t : TypeId) (f : Nat × Nat), B ≤ k → w.heap[k]? = some (.cells c t f) → t ≠ 36 → t ≠ 31 → (W8.setCell ⟨qb, i, none⟩ (.slice (some ⟨pb i, 0, none⟩) 0 (cp i))).heap[k]? = w.heap[k]?) :=
      ⟨(H6.out.k.trans (k8'.mono (fun _ e => .inr (.inr (.inr (.inr (.inl e))))))).trans (kq.mono (fun _ e => .inr (.inr (.inr (.inl e))))), (H6.out.hd.keeps k8' (fun g hg e => HA.out.lp (e ▸ hg))).far (p := ⟨qb, i, none⟩) HA.out.lq _, (H6.out.hr.keeps k8' HA.out.hp HA.out.qp).setQ i 0, (H6.out.th.keeps k8' (fun e => HA.out.Tp e.symm)).keeps kq (fun e => HA.out.Tq e.symm), (H6.out.oe.keeps k8' (fun x e => by rw [e]; exact HA.out.bp)).set (p := ⟨qb, i, none⟩) HA.out.bq _, (H6.out.ot.keeps k8' (fun x e => by rw [e]; exact HA.out.bp)).set (p := ⟨qb, i, none⟩) HA.out.bq _, Nat.le_trans H6.out.bs (Nat.le_trans k8'.size kq.size), fun g c t f hg hc h1 h2 => (Below.heap_setCell _ _ _ _ (by show g ≠ qb; have := HA.out.bq; omega)).trans (H6.out.fr' k8' (fun x e => by rw [e]; exact HA.out.bp) g c t f hg hc h1 h2)⟩
    have cq8 : W8.cell? ⟨hb, 0, none⟩ = some (.slice (some ⟨qb, 0, none⟩) n n) := (H6.out.hr.keeps k8' HA.out.hp HA.out.qp).q
    have cr8 := (H6.out.hr.keeps k8' HA.out.hp HA.out.qp).r i hi
    have fr8 := (H6.out.hr.keeps k8' HA.out.hp HA.out.qp).fq i
    clear k8 k8' kq H6
    (refine hK.out _ _ cq8 (fun hHeld => ?_); clear hK K; try simp only [Act.put, List.setIfInBounds_toArray, List.set_cons_zero, List.set_cons_succ])
    refine rgT 13 (h := ?_)
    (refine rgS 14 (h := fun K hK => ?_); go_simp)
    (refine hK.out _ _ HF.out.2.2.1.q (fun hHeld => ?_); clear hK K; try simp only [Act.put, List.setIfInBounds_toArray, List.set_cons_zero, List.set_cons_succ])
    refine wpAnyH_done (by kernel_rfl) ?_ _
    clear cq8 cr8 fr8
    go_wp2
    go_ret
    exact ⟨rfl, _, _, HF.out⟩
end Go.Proofs.YtdpebhdjcgiboaaGreat
