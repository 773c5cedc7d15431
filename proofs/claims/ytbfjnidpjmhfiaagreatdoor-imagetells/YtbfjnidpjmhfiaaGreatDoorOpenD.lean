import Derived.Test.YtbfjnidpjmhfiaaGreatDoorDe20
import Derived.Maps.AppendAt
import Derived.Deep.Slices
import Derived.SizedLaws
import Derived.ChangeOld
namespace Go.Proofs.YtbfjnidpjmhfiaaGreatDoor
set_option linter.unusedSimpArgs false
open Go.ChangeShapes Go.WideShapes Go.ChangeAt Go.RowKit Go.Maps
set_option linter.unusedVariables false
set_option maxRecDepth 100000
/-- A datum whose number is that of its type, and whose data is no longer than memory. -/
def DT.fit (d : DT) : Prop := d.wf ∧ d.data.size ≤ 140737488355328
/-- What stands while the lists of a pair are turned: nothing but their two rows is changed. -/
structure BwS (w : World) (B : Nat) (id lo hi gen : Int) (v u : Value) (W : World) (ds : List DT) (es : List ER) : Prop where
  p : Fp6 W w.heap.size (.int .i64 id) (.int .u64 lo) (.int .u64 hi) v (.int .i64 gen) u
  od : ownT W B v ds
  oe : ownE W B u es
  bel : Below B w W
  lb : B ≤ w.heap.size
  keep : ∀ k, k < w.heap.size → v.ownBlock ≠ some k → u.ownBlock ≠ some k → W.heap[k]? = w.heap[k]?
  lv : ∀ k, v.ownBlock = some k → k < w.heap.size
  lu : ∀ k, u.ownBlock = some k → k < w.heap.size
theorem BwS.drew {w : World} {B : Nat} {id lo hi gen : Int} {v u : Value} {W : World} {ds : List DT} {es : List ER} (h : BwS w B id lo hi gen v u W ds es) : BwS w B id lo hi gen v u W.drew ds es :=
  ⟨h.p, h.od.later (Below.refl _ _).drew, h.oe.later (Below.refl _ _).drew, h.bel.drew, h.lb, h.keep, h.lv, h.lu⟩
theorem BwS.c3 {w : World} {B : Nat} {id lo hi gen : Int} {v u : Value} {W : World} {ds : List DT} {es : List ER} (h : BwS w B id lo hi gen v u W ds es) : W.cell? ⟨w.heap.size, 3, none⟩ = some v := h.p.cell 3
theorem BwS.c5 {w : World} {B : Nat} {id lo hi gen : Int} {v u : Value} {W : World} {ds : List DT} {es : List ER} (h : BwS w B id lo hi gen v u W ds es) : W.cell? ⟨w.heap.size, 5, none⟩ = some u := h.p.cell 5
theorem BwS.layT {w : World} {B : Nat} {id lo hi gen : Int} {gr n cap : Nat} {u : Value} {W : World} {ds : List DT} {es : List ER} (h : BwS w B id lo hi gen (.slice (some ⟨gr, 0, none⟩) n cap) u W ds es) (hn : ds.length = n) (k : Nat) (hk : k < n) (x : DT) : BwS w B id lo hi gen (.slice (some ⟨gr, 0, none⟩) n cap) u (putT W gr k x) (ds.set k x) es := by
  have hlo := (h.od.own gr rfl).1
  have hlt := h.lv gr rfl
  exact ⟨(putT_heap W gr k x _ (by omega)).trans h.p, h.od.put hn k hk x, h.oe.keep (fun g hg => putT_heap W gr k x g (fun e => by subst e; exact h.od.ne h.oe rfl hg)), putT_below h.bel hlo k x, h.lb, fun g hg h1 h2 => (putT_heap W gr k x g (fun e => h1 (by rw [e]; rfl))).trans (h.keep g hg h1 h2), h.lv, h.lu⟩
theorem BwS.layE {w : World} {B : Nat} {id lo hi gen : Int} {gr n cap : Nat} {v : Value} {W : World} {ds : List DT} {es : List ER} (h : BwS w B id lo hi gen v (.slice (some ⟨gr, 0, none⟩) n cap) W ds es) (hn : es.length = n) (k : Nat) (hk : k < n) (x : ER) : BwS w B id lo hi gen v (.slice (some ⟨gr, 0, none⟩) n cap) (putE W gr k x) ds (es.set k x) := by
  have hlo := (h.oe.own gr rfl).1
  have hlt := h.lu gr rfl
  exact ⟨(putE_heap W gr k x _ (by omega)).trans h.p, h.od.keep (fun g hg => putE_heap W gr k x g (fun e => by subst e; exact h.od.ne h.oe hg rfl)), h.oe.put hn k hk x, putE_below h.bel hlo k x, h.lb, fun g hg h1 h2 => (putE_heap W gr k x g (fun e => h2 (by rw [e]; rfl))).trans (h.keep g hg h1 h2), h.lv, h.lu⟩
theorem BwS.turn {w : World} {B : Nat} {id lo hi gen : Int} {gr cap : Nat} {u : Value} {W : World} {m : DT} {es : List ER} (h : BwS w B id lo hi gen (.slice (some ⟨gr, 0, none⟩) 1 cap) u W [m] es) (d : ByteArray) : BwS w B id lo hi gen (.slice (some ⟨gr, 0, none⟩) 1 cap) u (W.setCell ⟨gr, 2, none⟩ (.string d)) [{ m with data := d }] es := by
  have hlo := (h.od.own gr rfl).1
  have hlt := h.lv gr rfl
  exact ⟨h.p.other (p := ⟨gr, 2, none⟩) _ (by simp only; omega), h.od.turn d, h.oe.keep (fun g hg => Below.heap_setCell _ _ _ g (fun e => by have e' : g = gr := e; subst e'; exact h.od.ne h.oe rfl hg)), h.bel.setCell (p := ⟨gr, 2, none⟩) hlo _, h.lb, fun g hg h1 h2 => (Below.heap_setCell _ _ _ g (fun e => h1 (by have e' : g = gr := e; rw [e']; rfl))).trans (h.keep g hg h1 h2), h.lv, h.lu⟩
/-- Behind backwards. -/
def BwP (w : World) (B : Nat) (v u : Value) (n m : Nat) (e : Ending) (w' : World) : Prop := e = .returned (.tuple #[]) ∧ Below B w w' ∧ (∀ k, k < w.heap.size → v.ownBlock ≠ some k → u.ownBlock ≠ some k → w'.heap[k]? = w.heap[k]?) ∧ ∃ ds es, ds.length = n ∧ es.length = m ∧ (∀ p ∈ es, p.wf) ∧ (∀ d ∈ ds, d.wf) ∧ ownT w' B v ds ∧ ownE w' B u es
theorem BwS.post {w : World} {B : Nat} {id lo hi gen : Int} {v u : Value} {W : World} {ds : List DT} {es : List ER} {n m : Nat} (h : BwS w B id lo hi gen v u W ds es) (hn : ds.length = n) (hm : es.length = m) (hw : ∀ p ∈ es, p.wf) (hd : ∀ d ∈ ds, d.wf) : BwP w B v u n m (.returned (.tuple #[])) W := ⟨rfl, h.bel, h.keep, ds, es, hn, hm, hw, hd, h.od, h.oe⟩
set_option maxHeartbeats 25600000 in
theorem backwards_any (w : World) (B : Nat) (id lo hi gen : Int) (da ao : Option Addr) (dc cap : Nat) (ds : List DT) (es : List ER) (hd : ownT w B (.slice da ds.length dc) ds) (he : ownE w B (.slice ao es.length cap) es) (hB : B ≤ w.heap.size) (hw : ∀ p ∈ es, p.wf) (hds : ∀ d ∈ ds, DT.fit d) (hdl : ds.length ≤ 9000000000000) (hel : es.length ≤ 9000000000000) :
    Calls Tryz.prog 11 #[.agg #[.int .i64 id, .int .u64 lo, .int .u64 hi, .slice da ds.length dc, .int .i64 gen, .slice ao es.length cap]] w (BwP w B (.slice da ds.length dc) (.slice ao es.length cap) ds.length es.length) := by
  have HS0 : Hid (BwS w B id lo hi gen (.slice da ds.length dc) (.slice ao es.length cap) (w.alloc (.cells #[.int .i64 id, .int .u64 lo, .int .u64 hi, .slice da ds.length dc, .int .i64 gen, .slice ao es.length cap] 26)) ds es) := ⟨heap_alloc_new w _, hd.alloc _, he.alloc _, (Below.refl _ _).alloc hB _, hB, fun k hk _ _ => Below.heap_alloc _ _ k hk, fun k hk => (World.ownsRow.lt hd k hk).2, fun k hk => (World.ownsRow.lt he k hk).2⟩
  have HW : Hid _ := hw
  have HDs : Hid (∀ d ∈ ds, DT.fit d) := hds
  clear hd he hw hds
  have g3 := HS0.out.c3
  go_enter Tryz.func11, Tryz.ntmps11
  go_wp2_with fail
  generalize w.alloc (.cells #[.int .i64 id, .int .u64 lo, .int .u64 hi, .slice da ds.length dc, .int .i64 gen, .slice ao es.length cap] 26) = W0 at *
  go_loopw [3] (fun i wr => ∃ (k : Nat) (qs : List DT), k ≤ ds.length / 2 ∧ i = .int .i64 k ∧ qs.length = ds.length ∧ (∀ d ∈ qs, DT.fit d) ∧ BwS w B id lo hi gen (.slice da ds.length dc) (.slice ao es.length cap) wr qs es) (fun i _ => ds.length - (intOf i).toNat)
  case atStart => exact ⟨0, ds, by omega, rfl, rfl, HDs.out, HS0.out⟩
  case round =>
    obtain ⟨k, qs, hk, rfl, hq, hqw, hS⟩ := hrel
    have HQW : Hid (∀ d ∈ qs, DT.fit d) := hqw
    clear hqw
    have HSk : Hid (BwS w B id lo hi gen (.slice da ds.length dc) (.slice ao es.length cap) wr qs es) := hS
    have HQ : Hid (qs.length = ds.length) := hq
    clear hS hq HS0 g3
    have g3 : wr.cell? ⟨w.heap.size, 3, none⟩ = some (.slice da ds.length dc) := HSk.out.c3
    have hdv : (ds.length : Int).tdiv 2 = ((ds.length / 2 : Nat) : Int) := by rw [Int.tdiv_eq_ediv_of_nonneg (by omega)]; omega
    by_cases h1 : k < ds.length / 2
    · obtain ⟨j, hj⟩ : ∃ j : Nat, j + 1 + k = ds.length := ⟨ds.length - 1 - k, by omega⟩
      have hjl : j < ds.length := by omega
      have hkl : k < ds.length := by omega
      have hkj : k < j := by omega
      have hw1 : IntKind.i64.wrap ((ds.length : Int) - 1) = (ds.length : Int) - 1 := by rw [IntKind.wrap_i64]; omega
      have hw2 : IntKind.i64.wrap ((ds.length : Int) - 1 - (k : Int)) = (j : Int) := by rw [IntKind.wrap_i64]; omega
      obtain ⟨gr, e, hge, hgr, hat, hfz⟩ := HSk.out.od.at k (by rw [HQ.out]; exact hkl)
      obtain ⟨p0, p1, p2⟩ := hat
      subst e
      obtain ⟨gr', e', _, _, hat2, _⟩ := HSk.out.od.at j (by rw [HQ.out]; exact hjl)
      obtain rfl : gr = gr' := by injection e' with e'; injection e'
      obtain ⟨q0, q1, q2⟩ := hat2
      have HX : Hid (DT.fit (qs[k]'(by rw [HQ.out]; exact hkl))) := HQW.out _ (List.getElem_mem _)
      have HYy : Hid (DT.fit (qs[j]'(by rw [HQ.out]; exact hjl))) := HQW.out _ (List.getElem_mem _)
      generalize qs[k]'(by rw [HQ.out]; exact hkl) = x at *
      generalize qs[j]'(by rw [HQ.out]; exact hjl) = y at *
      clear e'
      have hjj : (j : Int) < (ds.length : Int) := by omega
      have hkk : (k : Int) < (ds.length : Int) := by omega
      have z0 := hfz (k * 3)
      have z1 := hfz (k * 3 + 1)
      have z2 := hfz (k * 3 + 2)
      have HS1 : Hid _ := (HSk.out.layT HQ.out k hkl y).drew
      unfold Go.Proofs.YtbfjnidpjmhfiaaGreatDoor.putT at HS1
      have HWs : Hid (∀ d ∈ (qs.set k y).set j x, DT.fit d) := fun p hp => by
        rcases List.mem_or_eq_of_mem_set hp with h | h
        · rcases List.mem_or_eq_of_mem_set h with h | h
          · exact HQW.out p h
          · rw [h]; exact HYy.out
        · rw [h]; exact HX.out
      clear HX HYy
      clear hfz
      go_wp2_with fail
      (refine wp_region_held_drew (S := (fun W => W.cell? ⟨w.heap.size, 3, none⟩ = some (.slice (some ⟨gr, 0, none⟩) ds.length dc))) (by kernel_rfl) g3 (fun hHeld => ?_); simp only [List.size_toArray, List.length_cons, List.length_nil, Nat.reduceAdd, Array.replicate_succ, Array.replicate_zero, List.push_toArray, List.append_toArray, List.nil_append, List.cons_append])
      (refine tk0 (v := ?_) (by kernel_rfl) (by kernel_rfl) (by kernel_rfl) (fun _ _ _ h => h) (Or.inl ⟨by rfl, ?_⟩) (by assumption) ?_; rotate_left; (focus (intro w hSw; (try dsimp only at hSw); go_simp; (try first | (rw [dif_pos (by omega)]; simp only [Result.andThen_ok]) | rw [if_pos (by omega)]); (try with_reducible rfl); done)); try simp only [Act.put, List.setIfInBounds_toArray, List.set_cons_zero, List.set_cons_succ])
      (refine tk1 (v := ?_) (by kernel_rfl) (by kernel_rfl) (by kernel_rfl) (fun _ _ _ h => h) (Or.inl ⟨by rfl, ?_⟩) (by assumption) ?_; rotate_left; (focus (intro w hSw; (try dsimp only at hSw); go_simp; (try first | (rw [dif_pos (by omega)]; simp only [Result.andThen_ok]) | rw [if_pos (by omega)]); (try with_reducible rfl); done)); try simp only [Act.put, List.setIfInBounds_toArray, List.set_cons_zero, List.set_cons_succ])
      (refine tk2 (v := ?_) (by kernel_rfl) (by kernel_rfl) (by kernel_rfl) (fun _ _ _ h => h) (Or.inl ⟨by rfl, ?_⟩) (by assumption) ?_; rotate_left; (focus (intro w hSw; (try dsimp only at hSw); go_simp; (try first | (rw [dif_pos (by omega)]; simp only [Result.andThen_ok]) | rw [if_pos (by omega)]); (try with_reducible rfl); done)); try simp only [Act.put, List.setIfInBounds_toArray, List.set_cons_zero, List.set_cons_succ])
      (refine tk3 (v := ?_) (by kernel_rfl) (by kernel_rfl) (by kernel_rfl) (fun _ _ _ h => h) (Or.inl ⟨by rfl, ?_⟩) (by assumption) ?_; rotate_left; (focus (intro w hSw; (try dsimp only at hSw); go_simp; (try first | (rw [dif_pos (by omega)]; simp only [Result.andThen_ok]) | rw [if_pos (by omega)]); (try with_reducible rfl); done)); try simp only [Act.put, List.setIfInBounds_toArray, List.set_cons_zero, List.set_cons_succ])
      (refine tk4 (v := ?_) (by kernel_rfl) (by kernel_rfl) (by kernel_rfl) (fun _ _ _ h => h) (Or.inl ⟨by rfl, ?_⟩) (by assumption) ?_; rotate_left; (focus (intro w hSw; (try dsimp only at hSw); go_simp; (try first | (rw [dif_pos (by omega)]; simp only [Result.andThen_ok]) | rw [if_pos (by omega)]); (try with_reducible rfl); done)); try simp only [Act.put, List.setIfInBounds_toArray, List.set_cons_zero, List.set_cons_succ])
      (refine tk5 (v := ?_) (by kernel_rfl) (by kernel_rfl) (by kernel_rfl) (fun _ _ _ h => h) (Or.inl ⟨by rfl, ?_⟩) (by assumption) ?_; rotate_left; (focus (intro w hSw; (try dsimp only at hSw); go_simp; (try first | (rw [dif_pos (by omega)]; simp only [Result.andThen_ok]) | rw [if_pos (by omega)]); (try with_reducible rfl); done)); try simp only [Act.put, List.setIfInBounds_toArray, List.set_cons_zero, List.set_cons_succ])
      (refine tk6 (v := ?_) (by kernel_rfl) (by kernel_rfl) (by kernel_rfl) (fun _ _ _ h => h) (Or.inl ⟨by rfl, ?_⟩) (by assumption) ?_; rotate_left; (focus (intro w hSw; (try dsimp only at hSw); go_simp; (try first | (rw [dif_pos (by omega)]; simp only [Result.andThen_ok]) | rw [if_pos (by omega)]); (try with_reducible rfl); done)); try simp only [Act.put, List.setIfInBounds_toArray, List.set_cons_zero, List.set_cons_succ])
      (refine tk7 (v := ?_) (by kernel_rfl) (by kernel_rfl) (by kernel_rfl) (fun _ _ _ h => h) (Or.inl ⟨by rfl, ?_⟩) (by assumption) ?_; rotate_left; (focus (intro w hSw; (try dsimp only at hSw); go_simp; (try first | (rw [dif_pos (by omega)]; simp only [Result.andThen_ok]) | rw [if_pos (by omega)]); (try with_reducible rfl); done)); try simp only [Act.put, List.setIfInBounds_toArray, List.set_cons_zero, List.set_cons_succ])
      (refine tk8 (v := ?_) (by kernel_rfl) (by kernel_rfl) (by kernel_rfl) (fun _ _ _ h => h) (Or.inl ⟨by rfl, ?_⟩) (by assumption) ?_; rotate_left; (focus (intro w hSw; (try dsimp only at hSw); go_simp; (try first | (rw [dif_pos (by omega)]; simp only [Result.andThen_ok]) | rw [if_pos (by omega)]); (try with_reducible rfl); done)); try simp only [Act.put, List.setIfInBounds_toArray, List.set_cons_zero, List.set_cons_succ])
      (refine tk9 (v := ?_) (by kernel_rfl) (by kernel_rfl) (by kernel_rfl) (fun _ _ _ h => h) (Or.inl ⟨by rfl, ?_⟩) (by assumption) ?_; rotate_left; (focus (intro w hSw; (try dsimp only at hSw); go_simp; (try first | (rw [dif_pos (by omega)]; simp only [Result.andThen_ok]) | rw [if_pos (by omega)]); (try with_reducible rfl); done)); try simp only [Act.put, List.setIfInBounds_toArray, List.set_cons_zero, List.set_cons_succ])
      (refine tk10 (v := ?_) (by kernel_rfl) (by kernel_rfl) (by kernel_rfl) (fun _ _ _ h => h) (Or.inl ⟨by rfl, ?_⟩) (by assumption) ?_; rotate_left; (focus (intro w hSw; (try dsimp only at hSw); go_simp; (try first | (rw [dif_pos (by omega)]; simp only [Result.andThen_ok]) | rw [if_pos (by omega)]); (try with_reducible rfl); done)); try simp only [Act.put, List.setIfInBounds_toArray, List.set_cons_zero, List.set_cons_succ])
      (refine tk11 (v := ?_) (by kernel_rfl) (by kernel_rfl) (by kernel_rfl) (fun _ _ _ h => h) (Or.inl ⟨by rfl, ?_⟩) (by assumption) ?_; rotate_left; (focus (intro w hSw; (try dsimp only at hSw); go_simp; (try first | (rw [dif_pos (by omega)]; simp only [Result.andThen_ok]) | rw [if_pos (by omega)]); (try with_reducible rfl); done)); try simp only [Act.put, List.setIfInBounds_toArray, List.set_cons_zero, List.set_cons_succ])
      (refine tk12 (v := ?_) (by kernel_rfl) (by kernel_rfl) (by kernel_rfl) (fun _ _ _ h => h) (Or.inl ⟨by rfl, ?_⟩) (by assumption) ?_; rotate_left; (focus (intro w hSw; (try dsimp only at hSw); go_simp; (try first | (rw [dif_pos (by omega)]; simp only [Result.andThen_ok]) | rw [if_pos (by omega)]); (try with_reducible rfl); done)); try simp only [Act.put, List.setIfInBounds_toArray, List.set_cons_zero, List.set_cons_succ])
      (refine tk13 (v := ?_) (by kernel_rfl) (by kernel_rfl) (by kernel_rfl) (fun _ _ _ h => h) (Or.inl ⟨by rfl, ?_⟩) (by assumption) ?_; rotate_left; (focus (intro w hSw; (try dsimp only at hSw); go_simp; (try first | (rw [dif_pos (by omega)]; simp only [Result.andThen_ok]) | rw [if_pos (by omega)]); (try with_reducible rfl); done)); try simp only [Act.put, List.setIfInBounds_toArray, List.set_cons_zero, List.set_cons_succ])
      (refine tk14 (v := ?_) (by kernel_rfl) (by kernel_rfl) (by kernel_rfl) (fun _ _ _ h => h) (Or.inl ⟨by rfl, ?_⟩) (by assumption) ?_; rotate_left; (focus (intro w hSw; (try dsimp only at hSw); go_simp; (try first | (rw [dif_pos (by omega)]; simp only [Result.andThen_ok]) | rw [if_pos (by omega)]); (try with_reducible rfl); done)); try simp only [Act.put, List.setIfInBounds_toArray, List.set_cons_zero, List.set_cons_succ])
      (refine tk15 (v := ?_) (by kernel_rfl) (by kernel_rfl) (by kernel_rfl) (fun _ _ _ h => h) (Or.inl ⟨by rfl, ?_⟩) (by assumption) ?_; rotate_left; (focus (intro w hSw; (try dsimp only at hSw); go_simp; (try first | (rw [dif_pos (by omega)]; simp only [Result.andThen_ok]) | rw [if_pos (by omega)]); (try with_reducible rfl); done)); try simp only [Act.put, List.setIfInBounds_toArray, List.set_cons_zero, List.set_cons_succ])
      (refine tk17 (v := ?_) (by kernel_rfl) (by kernel_rfl) (by kernel_rfl) (fun _ _ _ h => h) (Or.inl ⟨by rfl, ?_⟩) (by assumption) ?_; rotate_left; (focus (intro w hSw; (try dsimp only at hSw); go_simp; (try first | (rw [dif_pos (by omega)]; simp only [Result.andThen_ok]) | rw [if_pos (by omega)]); (try with_reducible rfl); done)); try simp only [Act.put, List.setIfInBounds_toArray, List.set_cons_zero, List.set_cons_succ])
      (refine tk18 (v := ?_) (by kernel_rfl) (by kernel_rfl) (by kernel_rfl) (fun _ _ _ h => h) (Or.inl ⟨by rfl, ?_⟩) (by assumption) ?_; rotate_left; (focus (intro w hSw; (try dsimp only at hSw); go_simp; (try first | (rw [dif_pos (by omega)]; simp only [Result.andThen_ok]) | rw [if_pos (by omega)]); (try with_reducible rfl); done)); try simp only [Act.put, List.setIfInBounds_toArray, List.set_cons_zero, List.set_cons_succ])
      (refine tk19 (v := ?_) (by kernel_rfl) (by kernel_rfl) (by kernel_rfl) (fun _ _ _ h => h) (Or.inl ⟨by rfl, ?_⟩) (by assumption) ?_; rotate_left; (focus (intro w hSw; (try dsimp only at hSw); go_simp; (try first | (rw [dif_pos (by omega)]; simp only [Result.andThen_ok]) | rw [if_pos (by omega)]); (try with_reducible rfl); done)); try simp only [Act.put, List.setIfInBounds_toArray, List.set_cons_zero, List.set_cons_succ])
      (refine tk20 (v := ?_) (by kernel_rfl) (by kernel_rfl) (by kernel_rfl) (fun _ _ _ h => h) (Or.inl ⟨by rfl, ?_⟩) (by assumption) ?_; rotate_left; (focus (intro w hSw; (try dsimp only at hSw); go_simp; (try first | (rw [dif_pos (by omega)]; simp only [Result.andThen_ok]) | rw [if_pos (by omega)]); (try with_reducible rfl); done)); try simp only [Act.put, List.setIfInBounds_toArray, List.set_cons_zero, List.set_cons_succ])
      (refine wpAnyH_ready (rs := [16, 21]) (by kernel_rfl) (by simp) ?_; refine ar16 (fun K hK => ?_) (ar21 (fun K hK => ?_) AllReadyH.nil) <;> go_simp)
      · (refine hK.out _ _ g3 (fun hHeld => ?_); clear hK K; try simp only [Act.put, List.setIfInBounds_toArray, List.set_cons_zero, List.set_cons_succ])
        (refine wpAnyH_ready (rs := [21]) (by kernel_rfl) (by simp) ?_; refine ar21 (fun K hK => ?_) AllReadyH.nil; go_simp)
        (refine hK.out _ _ g3 (fun hHeld => ?_); clear hK K; try simp only [Act.put, List.setIfInBounds_toArray, List.set_cons_zero, List.set_cons_succ])
        (refine tk22 (v := ?_) (by kernel_rfl) (by kernel_rfl) (by kernel_rfl) (fun _ _ _ h => h) (Or.inl ⟨by rfl, ?_⟩) (by assumption) ?_; rotate_left; (focus (intro w hSw; (try dsimp only at hSw); go_simp; (try first | (rw [dif_pos (by omega)]; simp only [Result.andThen_ok]) | rw [if_pos (by omega)]); (try with_reducible rfl); done)); try simp only [Act.put, List.setIfInBounds_toArray, List.set_cons_zero, List.set_cons_succ])
        (refine wpAnyH_ready (rs := [23]) (by kernel_rfl) (by simp) ?_; refine ar23 (fun K hK => ?_) AllReadyH.nil; go_simp)
        generalize (((wr.setCell ⟨gr, k * 3, none⟩ (.int .u64 y.beg)).setCell ⟨gr, k * 3 + 1, none⟩ (.string y.key)).setCell ⟨gr, k * 3 + 2, none⟩ (.string y.data)).drew = W1 at *
        have hS1 := HS1.out
        have r3 := hS1.c3
        obtain ⟨gr3, ea, _, _, hat3, hfz3⟩ := hS1.od.at j (by rw [List.length_set, HQ.out]; exact hjl)
        obtain rfl : gr = gr3 := by injection ea with ea; injection ea
        obtain ⟨s0, s1, s2⟩ := hat3
        have t0 := hfz3 (j * 3)
        have t1 := hfz3 (j * 3 + 1)
        have t2 := hfz3 (j * 3 + 2)
        generalize (qs.set k y)[j]'(by rw [List.length_set, HQ.out]; exact hjl) = yy at *
        have HS2 : Hid _ := hS1.layT (by rw [List.length_set]; exact HQ.out) j hjl x
        unfold Go.Proofs.YtbfjnidpjmhfiaaGreatDoor.putT at HS2
        clear hS1 hfz3 ea
        (refine hK.out _ _ r3 (fun hHeld => ?_); clear hK K; try simp only [Act.put, List.setIfInBounds_toArray, List.set_cons_zero, List.set_cons_succ])
        (refine tk24 (v := ?_) (by kernel_rfl) (by kernel_rfl) (by kernel_rfl) (fun _ _ _ h => h) (Or.inl ⟨by rfl, ?_⟩) (by assumption) ?_; rotate_left; (focus (intro w hSw; (try dsimp only at hSw); go_simp; (try first | (rw [dif_pos (by omega)]; simp only [Result.andThen_ok]) | rw [if_pos (by omega)]); (try with_reducible rfl); done)); try simp only [Act.put, List.setIfInBounds_toArray, List.set_cons_zero, List.set_cons_succ])
        clear p0 p1 p2 q0 q1 q2 z0 z1 z2 hHeld
        (refine wpAnyH_ready (rs := [25]) (by kernel_rfl) (by simp) ?_; refine ar25 (fun K hK => ?_) AllReadyH.nil; go_simp)
        generalize (((W1.setCell ⟨gr, j * 3, none⟩ (.int .u64 x.beg)).setCell ⟨gr, j * 3 + 1, none⟩ (.string x.key)).setCell ⟨gr, j * 3 + 2, none⟩ (.string x.data)) = W2 at *
        (refine hK.out _ _ HS2.out.c3 (fun hHeld => ?_); clear hK K; try simp only [Act.put, List.setIfInBounds_toArray, List.set_cons_zero, List.set_cons_succ])
        refine wpAnyH_done (by kernel_rfl) ?_ _
        go_wp2
        go_roundw
        case rel => exact ⟨k + 1, (qs.set k y).set j x, by omega, by go_num, by rw [List.length_set, List.length_set]; exact HQ.out, HWs.out, HS2.out⟩
        case measure => simp [intOf]; omega
      · (refine hK.out _ _ g3 (fun hHeld => ?_); clear hK K; try simp only [Act.put, List.setIfInBounds_toArray, List.set_cons_zero, List.set_cons_succ])
        (refine wpAnyH_ready (rs := [16]) (by kernel_rfl) (by simp) ?_; refine ar16 (fun K hK => ?_) AllReadyH.nil; go_simp)
        (refine hK.out _ _ g3 (fun hHeld => ?_); clear hK K; try simp only [Act.put, List.setIfInBounds_toArray, List.set_cons_zero, List.set_cons_succ])
        (refine tk22 (v := ?_) (by kernel_rfl) (by kernel_rfl) (by kernel_rfl) (fun _ _ _ h => h) (Or.inl ⟨by rfl, ?_⟩) (by assumption) ?_; rotate_left; (focus (intro w hSw; (try dsimp only at hSw); go_simp; (try first | (rw [dif_pos (by omega)]; simp only [Result.andThen_ok]) | rw [if_pos (by omega)]); (try with_reducible rfl); done)); try simp only [Act.put, List.setIfInBounds_toArray, List.set_cons_zero, List.set_cons_succ])
        (refine wpAnyH_ready (rs := [23]) (by kernel_rfl) (by simp) ?_; refine ar23 (fun K hK => ?_) AllReadyH.nil; go_simp)
        generalize (((wr.setCell ⟨gr, k * 3, none⟩ (.int .u64 y.beg)).setCell ⟨gr, k * 3 + 1, none⟩ (.string y.key)).setCell ⟨gr, k * 3 + 2, none⟩ (.string y.data)).drew = W1 at *
        have hS1 := HS1.out
        have r3 := hS1.c3
        obtain ⟨gr3, ea, _, _, hat3, hfz3⟩ := hS1.od.at j (by rw [List.length_set, HQ.out]; exact hjl)
        obtain rfl : gr = gr3 := by injection ea with ea; injection ea
        obtain ⟨s0, s1, s2⟩ := hat3
        have t0 := hfz3 (j * 3)
        have t1 := hfz3 (j * 3 + 1)
        have t2 := hfz3 (j * 3 + 2)
        generalize (qs.set k y)[j]'(by rw [List.length_set, HQ.out]; exact hjl) = yy at *
        have HS2 : Hid _ := hS1.layT (by rw [List.length_set]; exact HQ.out) j hjl x
        unfold Go.Proofs.YtbfjnidpjmhfiaaGreatDoor.putT at HS2
        clear hS1 hfz3 ea
        (refine hK.out _ _ r3 (fun hHeld => ?_); clear hK K; try simp only [Act.put, List.setIfInBounds_toArray, List.set_cons_zero, List.set_cons_succ])
        (refine tk24 (v := ?_) (by kernel_rfl) (by kernel_rfl) (by kernel_rfl) (fun _ _ _ h => h) (Or.inl ⟨by rfl, ?_⟩) (by assumption) ?_; rotate_left; (focus (intro w hSw; (try dsimp only at hSw); go_simp; (try first | (rw [dif_pos (by omega)]; simp only [Result.andThen_ok]) | rw [if_pos (by omega)]); (try with_reducible rfl); done)); try simp only [Act.put, List.setIfInBounds_toArray, List.set_cons_zero, List.set_cons_succ])
        clear p0 p1 p2 q0 q1 q2 z0 z1 z2 hHeld
        (refine wpAnyH_ready (rs := [25]) (by kernel_rfl) (by simp) ?_; refine ar25 (fun K hK => ?_) AllReadyH.nil; go_simp)
        generalize (((W1.setCell ⟨gr, j * 3, none⟩ (.int .u64 x.beg)).setCell ⟨gr, j * 3 + 1, none⟩ (.string x.key)).setCell ⟨gr, j * 3 + 2, none⟩ (.string x.data)) = W2 at *
        (refine hK.out _ _ HS2.out.c3 (fun hHeld => ?_); clear hK K; try simp only [Act.put, List.setIfInBounds_toArray, List.set_cons_zero, List.set_cons_succ])
        refine wpAnyH_done (by kernel_rfl) ?_ _
        go_wp2
        go_roundw
        case rel => exact ⟨k + 1, (qs.set k y).set j x, by omega, by go_num, by rw [List.length_set, List.length_set]; exact HQ.out, HWs.out, HS2.out⟩
        case measure => simp [intOf]; omega
    · have g5 : wr.cell? ⟨w.heap.size, 5, none⟩ = some (.slice ao es.length cap) := HSk.out.c5
      go_wp2_with fail
      have HDl : Hid (ds.length ≤ 9000000000000) := hdl
      clear g3 g5 hdv hk h1 hdl
      go_loopw [4] (fun i wq => ∃ (k : Nat) (rs : List ER), k ≤ es.length / 2 ∧ i = .int .i64 k ∧ rs.length = es.length ∧ (∀ p ∈ rs, p.wf) ∧ BwS w B id lo hi gen (.slice da ds.length dc) (.slice ao es.length cap) wq qs rs) (fun i _ => es.length - (intOf i).toNat)
      case atStart => exact ⟨0, es, by omega, rfl, rfl, HW.out, HSk.out⟩
      case round =>
        rename World => wq
        have HQd : Hid (qs.length = ds.length) := HQ.out
        have HDq : Hid (∀ d ∈ qs, DT.fit d) := HQW.out
        clear HQ HSk HQW
        obtain ⟨k, rs, hk, rfl, hq, hqw, hS⟩ := hrel
        have HSk : Hid (BwS w B id lo hi gen (.slice da ds.length dc) (.slice ao es.length cap) wq qs rs) := hS
        have HQ : Hid (rs.length = es.length) := hq
        have HQW : Hid (∀ p ∈ rs, p.wf) := hqw
        clear hS hq hqw
        have g3 : wq.cell? ⟨w.heap.size, 5, none⟩ = some (.slice ao es.length cap) := HSk.out.c5
        have hdv : (es.length : Int).tdiv 2 = ((es.length / 2 : Nat) : Int) := by rw [Int.tdiv_eq_ediv_of_nonneg (by omega)]; omega
        by_cases h1 : k < es.length / 2
        · obtain ⟨j, hj⟩ : ∃ j : Nat, j + 1 + k = es.length := ⟨es.length - 1 - k, by omega⟩
          have hjl : j < es.length := by omega
          have hkl : k < es.length := by omega
          have hkj : k < j := by omega
          have hw1 : IntKind.i64.wrap ((es.length : Int) - 1) = (es.length : Int) - 1 := by rw [IntKind.wrap_i64]; omega
          have hw2 : IntKind.i64.wrap ((es.length : Int) - 1 - (k : Int)) = (j : Int) := by rw [IntKind.wrap_i64]; omega
          obtain ⟨gr, e, hge, hgr, hat, hfz⟩ := HSk.out.oe.at k (by rw [HQ.out]; exact hkl)
          obtain ⟨p0, p1, p2⟩ := hat
          subst e
          obtain ⟨gr', e', _, _, hat2, _⟩ := HSk.out.oe.at j (by rw [HQ.out]; exact hjl)
          obtain rfl : gr = gr' := by injection e' with e'; injection e'
          obtain ⟨q0, q1, q2⟩ := hat2
          have HX : Hid (rs[k]'(by rw [HQ.out]; exact hkl)).wf := HQW.out _ (List.getElem_mem _)
          have HYy : Hid (rs[j]'(by rw [HQ.out]; exact hjl)).wf := HQW.out _ (List.getElem_mem _)
          generalize rs[k]'(by rw [HQ.out]; exact hkl) = x at *
          generalize rs[j]'(by rw [HQ.out]; exact hjl) = y at *
          clear e'
          have hjj : (j : Int) < (es.length : Int) := by omega
          have hkk : (k : Int) < (es.length : Int) := by omega
          have z0 := hfz (k * 3)
          have z1 := hfz (k * 3 + 1)
          have z2 := hfz (k * 3 + 2)
          have HS1 : Hid _ := (HSk.out.layE HQ.out k hkl y).drew
          unfold Go.Proofs.YtbfjnidpjmhfiaaGreatDoor.putE at HS1
          have HWs : Hid (∀ p ∈ (rs.set k y).set j x, p.wf) := fun p hp => by
            rcases List.mem_or_eq_of_mem_set hp with h | h
            · rcases List.mem_or_eq_of_mem_set h with h | h
              · exact HQW.out p h
              · rw [h]; exact HYy.out
            · rw [h]; exact HX.out
          clear HX HYy
          clear hfz
          go_wp2_with fail
          (refine wp_region_held_drew (S := (fun W => W.cell? ⟨w.heap.size, 5, none⟩ = some (.slice (some ⟨gr, 0, none⟩) es.length cap))) (by kernel_rfl) g3 (fun hHeld => ?_); simp only [List.size_toArray, List.length_cons, List.length_nil, Nat.reduceAdd, Array.replicate_succ, Array.replicate_zero, List.push_toArray, List.append_toArray, List.nil_append, List.cons_append])
          (refine tk0 (v := ?_) (by kernel_rfl) (by kernel_rfl) (by kernel_rfl) (fun _ _ _ h => h) (Or.inl ⟨by rfl, ?_⟩) (by assumption) ?_; rotate_left; (focus (intro w hSw; (try dsimp only at hSw); go_simp; (try first | (rw [dif_pos (by omega)]; simp only [Result.andThen_ok]) | rw [if_pos (by omega)]); (try with_reducible rfl); done)); try simp only [Act.put, List.setIfInBounds_toArray, List.set_cons_zero, List.set_cons_succ])
          (refine tk1 (v := ?_) (by kernel_rfl) (by kernel_rfl) (by kernel_rfl) (fun _ _ _ h => h) (Or.inl ⟨by rfl, ?_⟩) (by assumption) ?_; rotate_left; (focus (intro w hSw; (try dsimp only at hSw); go_simp; (try first | (rw [dif_pos (by omega)]; simp only [Result.andThen_ok]) | rw [if_pos (by omega)]); (try with_reducible rfl); done)); try simp only [Act.put, List.setIfInBounds_toArray, List.set_cons_zero, List.set_cons_succ])
          (refine tk2 (v := ?_) (by kernel_rfl) (by kernel_rfl) (by kernel_rfl) (fun _ _ _ h => h) (Or.inl ⟨by rfl, ?_⟩) (by assumption) ?_; rotate_left; (focus (intro w hSw; (try dsimp only at hSw); go_simp; (try first | (rw [dif_pos (by omega)]; simp only [Result.andThen_ok]) | rw [if_pos (by omega)]); (try with_reducible rfl); done)); try simp only [Act.put, List.setIfInBounds_toArray, List.set_cons_zero, List.set_cons_succ])
          (refine tk3 (v := ?_) (by kernel_rfl) (by kernel_rfl) (by kernel_rfl) (fun _ _ _ h => h) (Or.inl ⟨by rfl, ?_⟩) (by assumption) ?_; rotate_left; (focus (intro w hSw; (try dsimp only at hSw); go_simp; (try first | (rw [dif_pos (by omega)]; simp only [Result.andThen_ok]) | rw [if_pos (by omega)]); (try with_reducible rfl); done)); try simp only [Act.put, List.setIfInBounds_toArray, List.set_cons_zero, List.set_cons_succ])
          (refine tk4 (v := ?_) (by kernel_rfl) (by kernel_rfl) (by kernel_rfl) (fun _ _ _ h => h) (Or.inl ⟨by rfl, ?_⟩) (by assumption) ?_; rotate_left; (focus (intro w hSw; (try dsimp only at hSw); go_simp; (try first | (rw [dif_pos (by omega)]; simp only [Result.andThen_ok]) | rw [if_pos (by omega)]); (try with_reducible rfl); done)); try simp only [Act.put, List.setIfInBounds_toArray, List.set_cons_zero, List.set_cons_succ])
          (refine tk5 (v := ?_) (by kernel_rfl) (by kernel_rfl) (by kernel_rfl) (fun _ _ _ h => h) (Or.inl ⟨by rfl, ?_⟩) (by assumption) ?_; rotate_left; (focus (intro w hSw; (try dsimp only at hSw); go_simp; (try first | (rw [dif_pos (by omega)]; simp only [Result.andThen_ok]) | rw [if_pos (by omega)]); (try with_reducible rfl); done)); try simp only [Act.put, List.setIfInBounds_toArray, List.set_cons_zero, List.set_cons_succ])
          (refine tk6 (v := ?_) (by kernel_rfl) (by kernel_rfl) (by kernel_rfl) (fun _ _ _ h => h) (Or.inl ⟨by rfl, ?_⟩) (by assumption) ?_; rotate_left; (focus (intro w hSw; (try dsimp only at hSw); go_simp; (try first | (rw [dif_pos (by omega)]; simp only [Result.andThen_ok]) | rw [if_pos (by omega)]); (try with_reducible rfl); done)); try simp only [Act.put, List.setIfInBounds_toArray, List.set_cons_zero, List.set_cons_succ])
          (refine tk7 (v := ?_) (by kernel_rfl) (by kernel_rfl) (by kernel_rfl) (fun _ _ _ h => h) (Or.inl ⟨by rfl, ?_⟩) (by assumption) ?_; rotate_left; (focus (intro w hSw; (try dsimp only at hSw); go_simp; (try first | (rw [dif_pos (by omega)]; simp only [Result.andThen_ok]) | rw [if_pos (by omega)]); (try with_reducible rfl); done)); try simp only [Act.put, List.setIfInBounds_toArray, List.set_cons_zero, List.set_cons_succ])
          (refine tk8 (v := ?_) (by kernel_rfl) (by kernel_rfl) (by kernel_rfl) (fun _ _ _ h => h) (Or.inl ⟨by rfl, ?_⟩) (by assumption) ?_; rotate_left; (focus (intro w hSw; (try dsimp only at hSw); go_simp; (try first | (rw [dif_pos (by omega)]; simp only [Result.andThen_ok]) | rw [if_pos (by omega)]); (try with_reducible rfl); done)); try simp only [Act.put, List.setIfInBounds_toArray, List.set_cons_zero, List.set_cons_succ])
          (refine tk9 (v := ?_) (by kernel_rfl) (by kernel_rfl) (by kernel_rfl) (fun _ _ _ h => h) (Or.inl ⟨by rfl, ?_⟩) (by assumption) ?_; rotate_left; (focus (intro w hSw; (try dsimp only at hSw); go_simp; (try first | (rw [dif_pos (by omega)]; simp only [Result.andThen_ok]) | rw [if_pos (by omega)]); (try with_reducible rfl); done)); try simp only [Act.put, List.setIfInBounds_toArray, List.set_cons_zero, List.set_cons_succ])
          (refine tk10 (v := ?_) (by kernel_rfl) (by kernel_rfl) (by kernel_rfl) (fun _ _ _ h => h) (Or.inl ⟨by rfl, ?_⟩) (by assumption) ?_; rotate_left; (focus (intro w hSw; (try dsimp only at hSw); go_simp; (try first | (rw [dif_pos (by omega)]; simp only [Result.andThen_ok]) | rw [if_pos (by omega)]); (try with_reducible rfl); done)); try simp only [Act.put, List.setIfInBounds_toArray, List.set_cons_zero, List.set_cons_succ])
          (refine tk11 (v := ?_) (by kernel_rfl) (by kernel_rfl) (by kernel_rfl) (fun _ _ _ h => h) (Or.inl ⟨by rfl, ?_⟩) (by assumption) ?_; rotate_left; (focus (intro w hSw; (try dsimp only at hSw); go_simp; (try first | (rw [dif_pos (by omega)]; simp only [Result.andThen_ok]) | rw [if_pos (by omega)]); (try with_reducible rfl); done)); try simp only [Act.put, List.setIfInBounds_toArray, List.set_cons_zero, List.set_cons_succ])
          (refine tk12 (v := ?_) (by kernel_rfl) (by kernel_rfl) (by kernel_rfl) (fun _ _ _ h => h) (Or.inl ⟨by rfl, ?_⟩) (by assumption) ?_; rotate_left; (focus (intro w hSw; (try dsimp only at hSw); go_simp; (try first | (rw [dif_pos (by omega)]; simp only [Result.andThen_ok]) | rw [if_pos (by omega)]); (try with_reducible rfl); done)); try simp only [Act.put, List.setIfInBounds_toArray, List.set_cons_zero, List.set_cons_succ])
          (refine tk13 (v := ?_) (by kernel_rfl) (by kernel_rfl) (by kernel_rfl) (fun _ _ _ h => h) (Or.inl ⟨by rfl, ?_⟩) (by assumption) ?_; rotate_left; (focus (intro w hSw; (try dsimp only at hSw); go_simp; (try first | (rw [dif_pos (by omega)]; simp only [Result.andThen_ok]) | rw [if_pos (by omega)]); (try with_reducible rfl); done)); try simp only [Act.put, List.setIfInBounds_toArray, List.set_cons_zero, List.set_cons_succ])
          (refine tk14 (v := ?_) (by kernel_rfl) (by kernel_rfl) (by kernel_rfl) (fun _ _ _ h => h) (Or.inl ⟨by rfl, ?_⟩) (by assumption) ?_; rotate_left; (focus (intro w hSw; (try dsimp only at hSw); go_simp; (try first | (rw [dif_pos (by omega)]; simp only [Result.andThen_ok]) | rw [if_pos (by omega)]); (try with_reducible rfl); done)); try simp only [Act.put, List.setIfInBounds_toArray, List.set_cons_zero, List.set_cons_succ])
          (refine tk15 (v := ?_) (by kernel_rfl) (by kernel_rfl) (by kernel_rfl) (fun _ _ _ h => h) (Or.inl ⟨by rfl, ?_⟩) (by assumption) ?_; rotate_left; (focus (intro w hSw; (try dsimp only at hSw); go_simp; (try first | (rw [dif_pos (by omega)]; simp only [Result.andThen_ok]) | rw [if_pos (by omega)]); (try with_reducible rfl); done)); try simp only [Act.put, List.setIfInBounds_toArray, List.set_cons_zero, List.set_cons_succ])
          (refine tk17 (v := ?_) (by kernel_rfl) (by kernel_rfl) (by kernel_rfl) (fun _ _ _ h => h) (Or.inl ⟨by rfl, ?_⟩) (by assumption) ?_; rotate_left; (focus (intro w hSw; (try dsimp only at hSw); go_simp; (try first | (rw [dif_pos (by omega)]; simp only [Result.andThen_ok]) | rw [if_pos (by omega)]); (try with_reducible rfl); done)); try simp only [Act.put, List.setIfInBounds_toArray, List.set_cons_zero, List.set_cons_succ])
          (refine tk18 (v := ?_) (by kernel_rfl) (by kernel_rfl) (by kernel_rfl) (fun _ _ _ h => h) (Or.inl ⟨by rfl, ?_⟩) (by assumption) ?_; rotate_left; (focus (intro w hSw; (try dsimp only at hSw); go_simp; (try first | (rw [dif_pos (by omega)]; simp only [Result.andThen_ok]) | rw [if_pos (by omega)]); (try with_reducible rfl); done)); try simp only [Act.put, List.setIfInBounds_toArray, List.set_cons_zero, List.set_cons_succ])
          (refine tk19 (v := ?_) (by kernel_rfl) (by kernel_rfl) (by kernel_rfl) (fun _ _ _ h => h) (Or.inl ⟨by rfl, ?_⟩) (by assumption) ?_; rotate_left; (focus (intro w hSw; (try dsimp only at hSw); go_simp; (try first | (rw [dif_pos (by omega)]; simp only [Result.andThen_ok]) | rw [if_pos (by omega)]); (try with_reducible rfl); done)); try simp only [Act.put, List.setIfInBounds_toArray, List.set_cons_zero, List.set_cons_succ])
          (refine tk20 (v := ?_) (by kernel_rfl) (by kernel_rfl) (by kernel_rfl) (fun _ _ _ h => h) (Or.inl ⟨by rfl, ?_⟩) (by assumption) ?_; rotate_left; (focus (intro w hSw; (try dsimp only at hSw); go_simp; (try first | (rw [dif_pos (by omega)]; simp only [Result.andThen_ok]) | rw [if_pos (by omega)]); (try with_reducible rfl); done)); try simp only [Act.put, List.setIfInBounds_toArray, List.set_cons_zero, List.set_cons_succ])
          (refine wpAnyH_ready (rs := [16, 21]) (by kernel_rfl) (by simp) ?_; refine ar16 (fun K hK => ?_) (ar21 (fun K hK => ?_) AllReadyH.nil) <;> go_simp)
          · (refine hK.out _ _ g3 (fun hHeld => ?_); clear hK K; try simp only [Act.put, List.setIfInBounds_toArray, List.set_cons_zero, List.set_cons_succ])
            (refine wpAnyH_ready (rs := [21]) (by kernel_rfl) (by simp) ?_; refine ar21 (fun K hK => ?_) AllReadyH.nil; go_simp)
            (refine hK.out _ _ g3 (fun hHeld => ?_); clear hK K; try simp only [Act.put, List.setIfInBounds_toArray, List.set_cons_zero, List.set_cons_succ])
            (refine tk22 (v := ?_) (by kernel_rfl) (by kernel_rfl) (by kernel_rfl) (fun _ _ _ h => h) (Or.inl ⟨by rfl, ?_⟩) (by assumption) ?_; rotate_left; (focus (intro w hSw; (try dsimp only at hSw); go_simp; (try first | (rw [dif_pos (by omega)]; simp only [Result.andThen_ok]) | rw [if_pos (by omega)]); (try with_reducible rfl); done)); try simp only [Act.put, List.setIfInBounds_toArray, List.set_cons_zero, List.set_cons_succ])
            (refine wpAnyH_ready (rs := [23]) (by kernel_rfl) (by simp) ?_; refine ar23 (fun K hK => ?_) AllReadyH.nil; go_simp)
            generalize (((wq.setCell ⟨gr, k * 3, none⟩ (.int .u64 y.beg)).setCell ⟨gr, k * 3 + 1, none⟩ (.int .u64 y.fin)).setCell ⟨gr, k * 3 + 2, none⟩ (.string y.key)).drew = W1 at *
            have hS1 := HS1.out
            have r3 := hS1.c5
            obtain ⟨gr3, ea, _, _, hat3, hfz3⟩ := hS1.oe.at j (by rw [List.length_set, HQ.out]; exact hjl)
            obtain rfl : gr = gr3 := by injection ea with ea; injection ea
            obtain ⟨s0, s1, s2⟩ := hat3
            have t0 := hfz3 (j * 3)
            have t1 := hfz3 (j * 3 + 1)
            have t2 := hfz3 (j * 3 + 2)
            generalize (rs.set k y)[j]'(by rw [List.length_set, HQ.out]; exact hjl) = yy at *
            have HS2 : Hid _ := hS1.layE (by rw [List.length_set]; exact HQ.out) j hjl x
            unfold Go.Proofs.YtbfjnidpjmhfiaaGreatDoor.putE at HS2
            clear hS1 hfz3 ea
            (refine hK.out _ _ r3 (fun hHeld => ?_); clear hK K; try simp only [Act.put, List.setIfInBounds_toArray, List.set_cons_zero, List.set_cons_succ])
            (refine tk24 (v := ?_) (by kernel_rfl) (by kernel_rfl) (by kernel_rfl) (fun _ _ _ h => h) (Or.inl ⟨by rfl, ?_⟩) (by assumption) ?_; rotate_left; (focus (intro w hSw; (try dsimp only at hSw); go_simp; (try first | (rw [dif_pos (by omega)]; simp only [Result.andThen_ok]) | rw [if_pos (by omega)]); (try with_reducible rfl); done)); try simp only [Act.put, List.setIfInBounds_toArray, List.set_cons_zero, List.set_cons_succ])
            clear p0 p1 p2 q0 q1 q2 z0 z1 z2 hHeld
            (refine wpAnyH_ready (rs := [25]) (by kernel_rfl) (by simp) ?_; refine ar25 (fun K hK => ?_) AllReadyH.nil; go_simp)
            generalize (((W1.setCell ⟨gr, j * 3, none⟩ (.int .u64 x.beg)).setCell ⟨gr, j * 3 + 1, none⟩ (.int .u64 x.fin)).setCell ⟨gr, j * 3 + 2, none⟩ (.string x.key)) = W2 at *
            (refine hK.out _ _ HS2.out.c5 (fun hHeld => ?_); clear hK K; try simp only [Act.put, List.setIfInBounds_toArray, List.set_cons_zero, List.set_cons_succ])
            refine wpAnyH_done (by kernel_rfl) ?_ _
            go_wp2
            go_roundw
            case rel => exact ⟨k + 1, (rs.set k y).set j x, by omega, by go_num, by rw [List.length_set, List.length_set]; exact HQ.out, HWs.out, HS2.out⟩
            case measure => simp [intOf]; omega
          · (refine hK.out _ _ g3 (fun hHeld => ?_); clear hK K; try simp only [Act.put, List.setIfInBounds_toArray, List.set_cons_zero, List.set_cons_succ])
            (refine wpAnyH_ready (rs := [16]) (by kernel_rfl) (by simp) ?_; refine ar16 (fun K hK => ?_) AllReadyH.nil; go_simp)
            (refine hK.out _ _ g3 (fun hHeld => ?_); clear hK K; try simp only [Act.put, List.setIfInBounds_toArray, List.set_cons_zero, List.set_cons_succ])
            (refine tk22 (v := ?_) (by kernel_rfl) (by kernel_rfl) (by kernel_rfl) (fun _ _ _ h => h) (Or.inl ⟨by rfl, ?_⟩) (by assumption) ?_; rotate_left; (focus (intro w hSw; (try dsimp only at hSw); go_simp; (try first | (rw [dif_pos (by omega)]; simp only [Result.andThen_ok]) | rw [if_pos (by omega)]); (try with_reducible rfl); done)); try simp only [Act.put, List.setIfInBounds_toArray, List.set_cons_zero, List.set_cons_succ])
            (refine wpAnyH_ready (rs := [23]) (by kernel_rfl) (by simp) ?_; refine ar23 (fun K hK => ?_) AllReadyH.nil; go_simp)
            generalize (((wq.setCell ⟨gr, k * 3, none⟩ (.int .u64 y.beg)).setCell ⟨gr, k * 3 + 1, none⟩ (.int .u64 y.fin)).setCell ⟨gr, k * 3 + 2, none⟩ (.string y.key)).drew = W1 at *
            have hS1 := HS1.out
            have r3 := hS1.c5
            obtain ⟨gr3, ea, _, _, hat3, hfz3⟩ := hS1.oe.at j (by rw [List.length_set, HQ.out]; exact hjl)
            obtain rfl : gr = gr3 := by injection ea with ea; injection ea
            obtain ⟨s0, s1, s2⟩ := hat3
            have t0 := hfz3 (j * 3)
            have t1 := hfz3 (j * 3 + 1)
            have t2 := hfz3 (j * 3 + 2)
            generalize (rs.set k y)[j]'(by rw [List.length_set, HQ.out]; exact hjl) = yy at *
            have HS2 : Hid _ := hS1.layE (by rw [List.length_set]; exact HQ.out) j hjl x
            unfold Go.Proofs.YtbfjnidpjmhfiaaGreatDoor.putE at HS2
            clear hS1 hfz3 ea
            (refine hK.out _ _ r3 (fun hHeld => ?_); clear hK K; try simp only [Act.put, List.setIfInBounds_toArray, List.set_cons_zero, List.set_cons_succ])
            (refine tk24 (v := ?_) (by kernel_rfl) (by kernel_rfl) (by kernel_rfl) (fun _ _ _ h => h) (Or.inl ⟨by rfl, ?_⟩) (by assumption) ?_; rotate_left; (focus (intro w hSw; (try dsimp only at hSw); go_simp; (try first | (rw [dif_pos (by omega)]; simp only [Result.andThen_ok]) | rw [if_pos (by omega)]); (try with_reducible rfl); done)); try simp only [Act.put, List.setIfInBounds_toArray, List.set_cons_zero, List.set_cons_succ])
            clear p0 p1 p2 q0 q1 q2 z0 z1 z2 hHeld
            (refine wpAnyH_ready (rs := [25]) (by kernel_rfl) (by simp) ?_; refine ar25 (fun K hK => ?_) AllReadyH.nil; go_simp)
            generalize (((W1.setCell ⟨gr, j * 3, none⟩ (.int .u64 x.beg)).setCell ⟨gr, j * 3 + 1, none⟩ (.int .u64 x.fin)).setCell ⟨gr, j * 3 + 2, none⟩ (.string x.key)) = W2 at *
            (refine hK.out _ _ HS2.out.c5 (fun hHeld => ?_); clear hK K; try simp only [Act.put, List.setIfInBounds_toArray, List.set_cons_zero, List.set_cons_succ])
            refine wpAnyH_done (by kernel_rfl) ?_ _
            go_wp2
            go_roundw
            case rel => exact ⟨k + 1, (rs.set k y).set j x, by omega, by go_num, by rw [List.length_set, List.length_set]; exact HQ.out, HWs.out, HS2.out⟩
            case measure => simp [intOf]; omega
        · have g5 : wq.cell? ⟨w.heap.size, 3, none⟩ = some (.slice da ds.length dc) := HSk.out.c3
          by_cases h0 : ds.length = 1
          · obtain ⟨gr, e, hge, hgr, hat, hfz⟩ := HSk.out.od.at 0 (by rw [HQd.out]; omega)
            obtain ⟨m, rfl⟩ : ∃ m, qs = [m] := List.length_eq_one_iff.1 (by rw [HQd.out]; exact h0)
            obtain ⟨p0, p1, p2⟩ := hat
            subst e
            rw [h0] at *
            have p2' : wq.cell? ⟨gr, 2, none⟩ = some (.string m.data) := by simpa using p2
            have z2 := hfz 2
            have hcc : ¬ 9223372036854775807 < m.data.size + 1 := by have := (HDq.out m (by simp)).2; omega
            have HSt : Hid _ := HSk.out.turn (m.data ++ ⟨#[120]⟩)
            clear hfz p0 p1 p2
            go_wp2
            (refine wp_region_held_drew (S := (fun W => W.cell? ⟨w.heap.size, 3, none⟩ = some (.slice (some ⟨gr, 0, none⟩) 1 dc))) (by kernel_rfl) g5 (fun hHeld => ?_); simp only [List.size_toArray, List.length_cons, List.length_nil, Nat.reduceAdd, Array.replicate_succ, Array.replicate_zero, List.push_toArray, List.append_toArray, List.nil_append, List.cons_append])
            (refine tk0 (v := ?_) (by kernel_rfl) (by kernel_rfl) (by kernel_rfl) (fun _ _ _ h => h) (Or.inl ⟨by rfl, ?_⟩) (by assumption) ?_; rotate_left; (focus (intro w hSw; (try dsimp only at hSw); go_simp; (try first | (rw [dif_pos (by omega)]; simp only [Result.andThen_ok]) | rw [if_pos (by omega)]); (try with_reducible rfl); done)); try simp only [Act.put, List.setIfInBounds_toArray, List.set_cons_zero, List.set_cons_succ])
            (refine tk1 (v := ?_) (by kernel_rfl) (by kernel_rfl) (by kernel_rfl) (fun _ _ _ h => h) (Or.inl ⟨by rfl, ?_⟩) (by assumption) ?_; rotate_left; (focus (intro w hSw; (try dsimp only at hSw); go_simp; (try first | (rw [dif_pos (by omega)]; simp only [Result.andThen_ok]) | rw [if_pos (by omega)]); (try with_reducible rfl); done)); try simp only [Act.put, List.setIfInBounds_toArray, List.set_cons_zero, List.set_cons_succ])
            (refine tk2 (v := ?_) (by kernel_rfl) (by kernel_rfl) (by kernel_rfl) (fun _ _ _ h => h) (Or.inl ⟨by rfl, ?_⟩) (by assumption) ?_; rotate_left; (focus (intro w hSw; (try dsimp only at hSw); go_simp; (try first | (rw [dif_pos (by omega)]; simp only [Result.andThen_ok]) | rw [if_pos (by omega)]); (try with_reducible rfl); done)); try simp only [Act.put, List.setIfInBounds_toArray, List.set_cons_zero, List.set_cons_succ])
            (refine tk3 (v := ?_) (by kernel_rfl) (by kernel_rfl) (by kernel_rfl) (fun _ _ _ h => h) (Or.inl ⟨by rfl, ?_⟩) (by assumption) ?_; rotate_left; (focus (intro w hSw; (try dsimp only at hSw); go_simp; (try first | (rw [dif_pos (by omega)]; simp only [Result.andThen_ok]) | rw [if_pos (by omega)]); (try with_reducible rfl); done)); try simp only [Act.put, List.setIfInBounds_toArray, List.set_cons_zero, List.set_cons_succ])
            (refine tk4 (v := ?_) (by kernel_rfl) (by kernel_rfl) (by kernel_rfl) (fun _ _ _ h => h) (Or.inl ⟨by rfl, ?_⟩) (by assumption) ?_; rotate_left; (focus (intro w hSw; (try dsimp only at hSw); go_simp; (try first | (rw [dif_pos (by omega)]; simp only [Result.andThen_ok]) | rw [if_pos (by omega)]); (try with_reducible rfl); done)); try simp only [Act.put, List.setIfInBounds_toArray, List.set_cons_zero, List.set_cons_succ])
            (refine tk5 (v := ?_) (by kernel_rfl) (by kernel_rfl) (by kernel_rfl) (fun _ _ _ h => h) (Or.inl ⟨by rfl, ?_⟩) (by assumption) ?_; rotate_left; (focus (intro w hSw; (try dsimp only at hSw); go_simp; (try first | (rw [dif_pos (by omega)]; simp only [Result.andThen_ok]) | rw [if_pos (by omega)]); (try with_reducible rfl); done)); try simp only [Act.put, List.setIfInBounds_toArray, List.set_cons_zero, List.set_cons_succ])
            (refine wpAnyH_ready (rs := [6]) (by kernel_rfl) (by simp) ?_; refine ar6 (fun K hK => ?_) AllReadyH.nil; go_simp)
            (refine hK.out _ _ g5 (fun hHeld => ?_); clear hK K; try simp only [Act.put, List.setIfInBounds_toArray, List.set_cons_zero, List.set_cons_succ])
            (refine tk7 (v := ?_) (by kernel_rfl) (by kernel_rfl) (by kernel_rfl) (fun _ _ _ h => h) (Or.inl ⟨by rfl, ?_⟩) (by assumption) ?_; rotate_left; (focus (intro w hSw; (try dsimp only at hSw); go_simp; (try first | (rw [dif_pos (by omega)]; simp only [Result.andThen_ok]) | rw [if_pos (by omega)]); (try with_reducible rfl); done)); try simp only [Act.put, List.setIfInBounds_toArray, List.set_cons_zero, List.set_cons_succ])
            (refine tk8 (v := ?_) (by kernel_rfl) (by kernel_rfl) (by kernel_rfl) (fun _ _ _ h => h) (Or.inl ⟨by rfl, ?_⟩) (by assumption) ?_; rotate_left; (focus (intro w hSw; (try dsimp only at hSw); go_simp; (try first | (rw [dif_pos (by omega)]; simp only [Result.andThen_ok]) | rw [if_pos (by omega)]); (try with_reducible rfl); done)); try simp only [Act.put, List.setIfInBounds_toArray, List.set_cons_zero, List.set_cons_succ])
            (refine tk9 (v := ?_) (by kernel_rfl) (by kernel_rfl) (by kernel_rfl) (fun _ _ _ h => h) (Or.inl ⟨by rfl, ?_⟩) (by assumption) ?_; rotate_left; (focus (intro w hSw; (try dsimp only at hSw); go_simp; (try first | (rw [dif_pos (by omega)]; simp only [Result.andThen_ok]) | rw [if_pos (by omega)]); (try with_reducible rfl); done)); try simp only [Act.put, List.setIfInBounds_toArray, List.set_cons_zero, List.set_cons_succ])
            (refine wpAnyH_ready (rs := [10]) (by kernel_rfl) (by simp) ?_; refine ar10 (fun K hK => ?_) AllReadyH.nil; go_simp)
            (refine hK.out _ _ HSt.out.drew.c3 (fun hHeld => ?_); clear hK K; try simp only [Act.put, List.setIfInBounds_toArray, List.set_cons_zero, List.set_cons_succ])
            refine wpAnyH_done (by kernel_rfl) ?_ _
            go_end0
            exact HSt.out.drew.post rfl HQ.out HQW.out (fun d hd => by rw [List.mem_singleton.1 hd]; exact (HDq.out m (by simp)).1)
          · go_wp2
            go_end0
            exact HSk.out.post HQd.out HQ.out HQW.out (fun d hd => (HDq.out d hd).1)
end Go.Proofs.YtbfjnidpjmhfiaaGreatDoor

namespace Go.Proofs.YtbfjnidpjmhfiaaGreatDoor
set_option linter.unusedSimpArgs false
open Go.ChangeShapes Go.WideShapes Go.ChangeAt Go.RowKit Go.Maps
set_option linter.unusedVariables false
set_option maxRecDepth 100000
theorem app_erL {wr : World} {ops : Array Oper} {rest : List Oper} {o : Oper} {a : Act} {Q : Exit → Act → World → Prop} (hgd : o.guard = none) (s x : Operand)
    (ho : o.op = .call { callee := .builtin .append, args := #[s, x], argTypes := #[24, 24] })
    (B : Nat) (v : Value) (vs : List ER) (c : ER) (hown : ownE wr B v vs) (hs : a.eval s = v) (g : Nat) (hg : g = wr.heap.size) (hx : a.eval x = .slice (some ⟨g, 0, none⟩) 1 1)
    (hlen : (vs.length + 1) * 32 ≤ 140737488355328) (hB : B ≤ wr.heap.size)
    (h : ∀ v' w', ownE w' B v' (vs ++ [c]) → Below B wr w' → wr.heap.size + 1 ≤ w'.heap.size → (∀ k, k < wr.heap.size → v.ownBlock ≠ some k → w'.heap[k]? = wr.heap[k]?) → (v'.ownBlock = v.ownBlock ∨ v'.ownBlock = some (wr.heap.size + 1)) → wpList Tryz.prog ops Q rest (a.put o.dst v') w') :
    wpList Tryz.prog ops Q (o :: rest) a (wr.alloc (.cells #[.int .u64 c.beg, .int .u64 c.fin, .string c.key] 33)) := by
  subst hg
  obtain ⟨i0, hi, hz0, hz1, hz2⟩ := info_parts infoE
  refine wpList_plain hgd fun K hK => ?_
  obtain ⟨v', w', hr, hrow, hgrow, _, hloc⟩ := run_append_own_at (P := Tryz.prog) (w := wr.alloc (.cells #[.int .u64 c.beg, .int .u64 c.fin, .string c.key] 33)) B 24 o.type 33 i0 _ 3 32 Tryz.underlying24 hi hz0 hz1 hz2 rfl (by decide) v vs.length _ (World.ownsRow.alloc hown _) ⟨wr.heap.size, 0, none⟩ 1 1 (cellE c) rfl (fun j u hj => by
      match j, hj with
      | 0, hj => simp [cellE] at hj; subst hj; simp [Addr.add]
      | 1, hj => simp [cellE] at hj; subst hj; simp [Addr.add]
      | 2, hj => simp [cellE] at hj; subst hj; simp [Addr.add]) (fun u hu => cellsE_one [c] u (by simpa [cellsE] using hu)) (by unfold maxLen; omega) (by omega) (by simp; omega)
  unfold Oper.wp execOp
  simp only [ho, resolve, invoke, builtin, Sem.run_bind, Sem.run_pure, Result.andThen_ok, List.map_toArray, List.map_cons, List.map_nil, hs, hx, hr]
  refine hK _ _ (h v' w' ?_ (((Below.refl _ _).alloc hB _).grown hgrow (by simp; omega) (fun k hk => (World.ownsRow.lt hown k hk).1)) ?_ ?_ ?_)
  · have : (vs ++ [c]).length = vs.length + 1 := by simp
    unfold ownE; rw [this, cellsE_app, show cellsE [c] = cellE c from by simp [cellsE]]; exact hrow
  · have := hgrow.size
    simpa using this
  · intro k hk hne
    exact (hgrow.block k (by simp; omega) (fun e => hne e.symm)).trans (Below.heap_alloc _ _ k hk)
  · simpa using hloc
theorem app_dtL {wr : World} {ops : Array Oper} {rest : List Oper} {o : Oper} {a : Act} {Q : Exit → Act → World → Prop} (hgd : o.guard = none) (s x : Operand)
    (ho : o.op = .call { callee := .builtin .append, args := #[s, x], argTypes := #[23, 23] })
    (B : Nat) (v : Value) (vs : List DT) (c : DT) (hown : ownT wr B v vs) (hs : a.eval s = v) (g : Nat) (hg : g = wr.heap.size) (hx : a.eval x = .slice (some ⟨g, 0, none⟩) 1 1)
    (hlen : (vs.length + 1) * 40 ≤ 140737488355328) (hB : B ≤ wr.heap.size)
    (h : ∀ v' w', ownT w' B v' (vs ++ [c]) → Below B wr w' → wr.heap.size + 1 ≤ w'.heap.size → (∀ k, k < wr.heap.size → v.ownBlock ≠ some k → w'.heap[k]? = wr.heap[k]?) → (v'.ownBlock = v.ownBlock ∨ v'.ownBlock = some (wr.heap.size + 1)) → wpList Tryz.prog ops Q rest (a.put o.dst v') w') :
    wpList Tryz.prog ops Q (o :: rest) a (wr.alloc (.cells #[.int .u64 c.beg, .string c.key, .string c.data] 31)) := by
  subst hg
  obtain ⟨i0, hi, hz0, hz1, hz2⟩ := info_parts infoT
  refine wpList_plain hgd fun K hK => ?_
  obtain ⟨v', w', hr, hrow, hgrow, _, hloc⟩ := run_append_own_at (P := Tryz.prog) (w := wr.alloc (.cells #[.int .u64 c.beg, .string c.key, .string c.data] 31)) B 23 o.type 31 i0 _ 3 40 Tryz.underlying23 hi hz0 hz1 hz2 rfl (by decide) v vs.length _ (World.ownsRow.alloc hown _) ⟨wr.heap.size, 0, none⟩ 1 1 (cellT c) rfl (fun j u hj => by
      match j, hj with
      | 0, hj => simp [cellT] at hj; subst hj; simp [Addr.add]
      | 1, hj => simp [cellT] at hj; subst hj; simp [Addr.add]
      | 2, hj => simp [cellT] at hj; subst hj; simp [Addr.add]) (fun u hu => cellsT_one [c] u (by simpa [cellsT] using hu)) (by unfold maxLen; omega) (by omega) (by simp; omega)
  unfold Oper.wp execOp
  simp only [ho, resolve, invoke, builtin, Sem.run_bind, Sem.run_pure, Result.andThen_ok, List.map_toArray, List.map_cons, List.map_nil, hs, hx, hr]
  refine hK _ _ (h v' w' ?_ (((Below.refl _ _).alloc hB _).grown hgrow (by simp; omega) (fun k hk => (World.ownsRow.lt hown k hk).1)) ?_ ?_ ?_)
  · have : (vs ++ [c]).length = vs.length + 1 := by simp
    unfold ownT; rw [this, cellsT_app, show cellsT [c] = cellT c from by simp [cellsT]]; exact hrow
  · have := hgrow.size
    simpa using this
  · intro k hk hne
    exact (hgrow.block k (by simp; omega) (fun e => hne e.symm)).trans (Below.heap_alloc _ _ k hk)
  · simpa using hloc
/-- What stands while both lists are written full: nothing else is touched. -/
structure NkS (w : World) (LB : Nat) (v0 u0 : Value) (id lo hi gen : Int) (W : World) (v u : Value) (ds : List DT) (es : List ER) : Prop where
  m : Fp6 W w.heap.size (.int .i64 id) (.int .u64 lo) (.int .u64 hi) v (.int .i64 gen) u
  od : ownT W LB v ds
  oe : ownE W LB u es
  bel : Below LB w W
  lb : LB ≤ w.heap.size
  keep : ∀ k, k < w.heap.size → v0.ownBlock ≠ some k → u0.ownBlock ≠ some k → W.heap[k]? = w.heap[k]?
  atv : ∀ k, v.ownBlock = some k → v0.ownBlock = some k ∨ w.heap.size < k
  atu : ∀ k, u.ownBlock = some k → u0.ownBlock = some k ∨ w.heap.size < k
  lv : ∀ k, v0.ownBlock = some k → k < w.heap.size
  lu : ∀ k, u0.ownBlock = some k → k < w.heap.size
theorem NkS.c3 {w : World} {LB : Nat} {v0 u0 : Value} {id lo hi gen : Int} {W : World} {v u : Value} {ds : List DT} {es : List ER} (h : NkS w LB v0 u0 id lo hi gen W v u ds es) : W.cell? ⟨w.heap.size, 3, none⟩ = some v := h.m.cell 3
theorem NkS.c5 {w : World} {LB : Nat} {v0 u0 : Value} {id lo hi gen : Int} {W : World} {v u : Value} {ds : List DT} {es : List ER} (h : NkS w LB v0 u0 id lo hi gen W v u ds es) : W.cell? ⟨w.heap.size, 5, none⟩ = some u := h.m.cell 5
theorem NkS.nv {w : World} {LB : Nat} {v0 u0 : Value} {id lo hi gen : Int} {W : World} {v u : Value} {ds : List DT} {es : List ER} (h : NkS w LB v0 u0 id lo hi gen W v u ds es) : v.ownBlock ≠ some w.heap.size := fun e => by
  rcases h.atv _ e with e2 | e2
  · have := h.lv _ e2; omega
  · omega
theorem NkS.nu {w : World} {LB : Nat} {v0 u0 : Value} {id lo hi gen : Int} {W : World} {v u : Value} {ds : List DT} {es : List ER} (h : NkS w LB v0 u0 id lo hi gen W v u ds es) : u.ownBlock ≠ some w.heap.size := fun e => by
  rcases h.atu _ e with e2 | e2
  · have := h.lu _ e2; omega
  · omega
theorem NkS.layT {w : World} {LB gr n cap : Nat} {u0 : Value} {id lo hi gen : Int} {W : World} {u : Value} {ds : List DT} {es : List ER} (h : NkS w LB (.slice (some ⟨gr, 0, none⟩) n cap) u0 id lo hi gen W (.slice (some ⟨gr, 0, none⟩) n cap) u ds es) (hn : ds.length = n) (k : Nat) (hk : k < n) (x : DT) : NkS w LB (.slice (some ⟨gr, 0, none⟩) n cap) u0 id lo hi gen (putT W gr k x) (.slice (some ⟨gr, 0, none⟩) n cap) u (ds.set k x) es := by
  have hlo := (h.od.own gr rfl).1
  have hlt := h.lv gr rfl
  exact ⟨(putT_heap W gr k x _ (by omega)).trans h.m, h.od.put hn k hk x, h.oe.keep (fun g hg => putT_heap W gr k x g (fun e => by subst e; exact h.od.ne h.oe rfl hg)), putT_below h.bel hlo k x, h.lb, fun g hg h1 h2 => (putT_heap W gr k x g (fun e => h1 (by rw [e]; rfl))).trans (h.keep g hg h1 h2), h.atv, h.atu, h.lv, h.lu⟩
theorem NkS.layE {w : World} {LB gr n cap : Nat} {v0 : Value} {id lo hi gen : Int} {W : World} {v : Value} {ds : List DT} {es : List ER} (h : NkS w LB v0 (.slice (some ⟨gr, 0, none⟩) n cap) id lo hi gen W v (.slice (some ⟨gr, 0, none⟩) n cap) ds es) (hn : es.length = n) (k : Nat) (hk : k < n) (x : ER) : NkS w LB v0 (.slice (some ⟨gr, 0, none⟩) n cap) id lo hi gen (putE W gr k x) v (.slice (some ⟨gr, 0, none⟩) n cap) ds (es.set k x) := by
  have hlo := (h.oe.own gr rfl).1
  have hlt := h.lu gr rfl
  exact ⟨(putE_heap W gr k x _ (by omega)).trans h.m, h.od.keep (fun g hg => putE_heap W gr k x g (fun e => by subst e; exact h.od.ne h.oe hg rfl)), h.oe.put hn k hk x, putE_below h.bel hlo k x, h.lb, fun g hg h1 h2 => (putE_heap W gr k x g (fun e => h2 (by rw [e]; rfl))).trans (h.keep g hg h1 h2), h.atv, h.atu, h.lv, h.lu⟩
theorem NkS.appT {w : World} {LB : Nat} {v0 u0 : Value} {id lo hi gen : Int} {W W' : World} {v v' u : Value} {ds ds' : List DT} {es : List ER} (h : NkS w LB v0 u0 id lo hi gen W v u ds es) (ho : ownT W' LB v' ds') (hbl : Below LB W W') (hs : W.heap.size + 1 ≤ W'.heap.size) (hk : ∀ k, k < W.heap.size → v.ownBlock ≠ some k → W'.heap[k]? = W.heap[k]?) (hl : v'.ownBlock = v.ownBlock ∨ v'.ownBlock = some (W.heap.size + 1)) : Fp6 W' w.heap.size (.int .i64 id) (.int .u64 lo) (.int .u64 hi) v (.int .i64 gen) u ∧ NkS w LB v0 u0 id lo hi gen (W'.setCell ⟨w.heap.size, 3, none⟩ v') v' u ds' es := by
  have hsz := h.m.lt
  have hM := (hk _ h.m.lt h.nv).trans h.m
  have hoe : ownE W' LB u es := h.oe.keep (fun k e => hk k (h.oe.own k e).2 (fun e2 => h.od.ne h.oe e2 e))
  refine ⟨hM, Fp6.set3 hM v', ho.keep (fun k e => Below.heap_setCell _ _ _ k (fun e2 => ?_)), hoe.keep (fun k e => Below.heap_setCell _ _ _ k (fun e2 => ?_)), (h.bel.trans hbl).setCell (p := ⟨w.heap.size, 3, none⟩) h.lb _, h.lb, fun j hj hne hne2 => ?_, fun k e => ?_, h.atu, h.lv, h.lu⟩
  · have e3 : k = w.heap.size := e2
    subst e3
    rcases hl with e1 | e1
    · exact h.nv (e1 ▸ e)
    · rw [e1] at e; injection e with e; omega
  · have e3 : k = w.heap.size := e2
    subst e3
    exact h.nu e
  · refine (Below.heap_setCell _ _ _ j (by simp only; omega)).trans ((hk j (by omega) (fun e => ?_)).trans (h.keep j hj hne hne2))
    rcases h.atv _ e with e2 | e2
    · exact hne e2
    · omega
  · rcases hl with e1 | e1
    · exact h.atv k (e1 ▸ e)
    · rw [e1] at e; injection e with e; right; omega
theorem NkS.appE {w : World} {LB : Nat} {v0 u0 : Value} {id lo hi gen : Int} {W W' : World} {v u u' : Value} {ds : List DT} {es es' : List ER} (h : NkS w LB v0 u0 id lo hi gen W v u ds es) (ho : ownE W' LB u' es') (hbl : Below LB W W') (hs : W.heap.size + 1 ≤ W'.heap.size) (hk : ∀ k, k < W.heap.size → u.ownBlock ≠ some k → W'.heap[k]? = W.heap[k]?) (hl : u'.ownBlock = u.ownBlock ∨ u'.ownBlock = some (W.heap.size + 1)) : Fp6 W' w.heap.size (.int .i64 id) (.int .u64 lo) (.int .u64 hi) v (.int .i64 gen) u ∧ NkS w LB v0 u0 id lo hi gen (W'.setCell ⟨w.heap.size, 5, none⟩ u') v u' ds es' := by
  have hsz := h.m.lt
  have hM := (hk _ h.m.lt h.nu).trans h.m
  have hod : ownT W' LB v ds := h.od.keep (fun k e => hk k (h.od.own k e).2 (fun e2 => h.od.ne h.oe e e2))
  refine ⟨hM, Fp6.set5 hM u', hod.keep (fun k e => Below.heap_setCell _ _ _ k (fun e2 => ?_)), ho.keep (fun k e => Below.heap_setCell _ _ _ k (fun e2 => ?_)), (h.bel.trans hbl).setCell (p := ⟨w.heap.size, 5, none⟩) h.lb _, h.lb, fun j hj hne hne2 => ?_, h.atv, fun k e => ?_, h.lv, h.lu⟩
  · have e3 : k = w.heap.size := e2
    subst e3
    exact h.nv e
  · have e3 : k = w.heap.size := e2
    subst e3
    rcases hl with e1 | e1
    · exact h.nu (e1 ▸ e)
    · rw [e1] at e; injection e with e; omega
  · refine (Below.heap_setCell _ _ _ j (by simp only; omega)).trans ((hk j (by omega) (fun e => ?_)).trans (h.keep j hj hne hne2))
    rcases h.atu _ e with e2 | e2
    · exact hne2 e2
    · omega
  · rcases hl with e1 | e1
    · exact h.atu k (e1 ▸ e)
    · rw [e1] at e; injection e with e; right; omega
set_option maxHeartbeats 12800000 in
theorem marked_any (w : World) (id lo hi gen : Int) (da ao : Option Addr) (dc cap : Nat) (ds : List DT) (es : List ER) (LB : Nat) (hd : ownT w LB (.slice da ds.length dc) ds) (he : ownE w LB (.slice ao es.length cap) es) (hLB : LB ≤ w.heap.size) (hdl : ds.length ≤ 65536) (hel : es.length ≤ 65536) :
    Calls Tryz.prog 14 #[.agg #[.int .i64 id, .int .u64 lo, .int .u64 hi, .slice da ds.length dc, .int .i64 gen, .slice ao es.length cap]] w fun e w' => e = .returned (.tuple #[]) ∧ Below LB w w' ∧ ∀ k, k < w.heap.size → (Value.slice da ds.length dc).ownBlock ≠ some k → (Value.slice ao es.length cap).ownBlock ≠ some k → w'.heap[k]? = w.heap[k]? := by
  have HS0 : Hid (NkS w LB (.slice da ds.length dc) (.slice ao es.length cap) id lo hi gen (w.alloc (.cells #[.int .i64 id, .int .u64 lo, .int .u64 hi, .slice da ds.length dc, .int .i64 gen, .slice ao es.length cap] 26)) (.slice da ds.length dc) (.slice ao es.length cap) ds es) := ⟨heap_alloc_new w _, hd.alloc _, he.alloc _, (Below.refl _ _).alloc hLB _, hLB, fun k hk _ _ => Below.heap_alloc _ _ k hk, fun k hk => .inl hk, fun k hk => .inl hk, fun k hk => (World.ownsRow.lt hd k hk).2, fun k hk => (World.ownsRow.lt he k hk).2⟩
  clear hd he
  go_enter Tryz.func14, Tryz.ntmps14
  go_wp2_with fail
  generalize w.alloc (.cells #[.int .i64 id, .int .u64 lo, .int .u64 hi, .slice da ds.length dc, .int .i64 gen, .slice ao es.length cap] 26) = W0 at *
  go_loopw [2] (fun i wr => ∃ (k : Nat) (qs : List DT), k ≤ ds.length ∧ i = .int .i64 k ∧ qs.length = ds.length ∧ NkS w LB (.slice da ds.length dc) (.slice ao es.length cap) id lo hi gen wr (.slice da ds.length dc) (.slice ao es.length cap) qs es) (fun i _ => ds.length - (intOf i).toNat)
  case atStart => exact ⟨0, ds, by omega, rfl, rfl, HS0.out⟩
  case round =>
    obtain ⟨k, qs, hk, rfl, hq, hS⟩ := hrel
    have HSk : Hid (NkS w LB (.slice da ds.length dc) (.slice ao es.length cap) id lo hi gen wr (.slice da ds.length dc) (.slice ao es.length cap) qs es) := hS
    have HQ : Hid (qs.length = ds.length) := hq
    clear hS hq HS0
    have c3 : wr.cell? ⟨w.heap.size, 3, none⟩ = some (.slice da ds.length dc) := HSk.out.c3
    by_cases h1 : k < ds.length
    · obtain ⟨gr, e, _, hgr, hat, hfz⟩ := HSk.out.od.at k (by rw [HQ.out]; exact h1)
      obtain ⟨q0, q1, q2⟩ := hat
      subst e
      have z0 := hfz (k * 3)
      have z1 := hfz (k * 3 + 1)
      have z2 := hfz (k * 3 + 2)
      have hwr : IntKind.u64.wrap (k : Int) = (k : Int) := by rw [IntKind.wrap_u64]; omega
      have hSn := HSk.out.layT HQ.out k h1 ⟨(k : Int), ⟨#[120]⟩, ⟨#[109, 97, 114, 107, 101, 100]⟩⟩
      unfold Go.Proofs.YtbfjnidpjmhfiaaGreatDoor.putT at hSn
      simp only at hSn
      have HSn : Hid _ := hSn
      clear hfz hSn
      go_wp2
      go_roundw
      case rel =>
        refine ⟨k + 1, qs.set k ⟨(k : Int), ⟨#[120]⟩, ⟨#[109, 97, 114, 107, 101, 100]⟩⟩, by omega, by go_num, by rw [List.length_set]; exact HQ.out, ?_⟩
        exact HSn.out
      case measure => simp [intOf]; omega
    · go_wp2_with fail
      clear c3
      go_loopw [3] (fun i wq => ∃ (t : Nat) (rs : List ER), t ≤ es.length ∧ i = .int .i64 t ∧ rs.length = es.length ∧ NkS w LB (.slice da ds.length dc) (.slice ao es.length cap) id lo hi gen wq (.slice da ds.length dc) (.slice ao es.length cap) qs rs) (fun i _ => es.length - (intOf i).toNat)
      case atStart => exact ⟨0, es, by omega, rfl, rfl, HSk.out⟩
      case round =>
        rename World => wq
        obtain ⟨t, rs, ht, rfl, hr, hS⟩ := hrel
        have HSt : Hid (NkS w LB (.slice da ds.length dc) (.slice ao es.length cap) id lo hi gen wq (.slice da ds.length dc) (.slice ao es.length cap) qs rs) := hS
        have HR : Hid (rs.length = es.length) := hr
        clear hS hr HSk
        have c5 : wq.cell? ⟨w.heap.size, 5, none⟩ = some (.slice ao es.length cap) := HSt.out.c5
        by_cases h2 : t < es.length
        · obtain ⟨gr, e, _, hgr, hat, hfz⟩ := HSt.out.oe.at t (by rw [HR.out]; exact h2)
          obtain ⟨q0, q1, q2⟩ := hat
          subst e
          have z0 := hfz (t * 3)
          have z1 := hfz (t * 3 + 1)
          have z2 := hfz (t * 3 + 2)
          have hwr : IntKind.u64.wrap (t : Int) = (t : Int) := by rw [IntKind.wrap_u64]; omega
          have hSn := HSt.out.layE HR.out t h2 ⟨7, (t : Int), ⟨#[120]⟩⟩
          unfold Go.Proofs.YtbfjnidpjmhfiaaGreatDoor.putE at hSn
          simp only at hSn
          have HSn : Hid _ := hSn
          clear hfz hSn
          go_wp2
          go_roundw
          case rel =>
            refine ⟨t + 1, rs.set t ⟨7, (t : Int), ⟨#[120]⟩⟩, by omega, by go_num, by rw [List.length_set]; exact HR.out, ?_⟩
            exact HSn.out
          case measure => simp [intOf]; omega
        · go_wp2_with fail
          clear c5
          go_loopw [4] (fun i wx => ∃ (s : Nat) (v u : Value) (ms : List DT) (ns : List ER), s ≤ 20 ∧ i = .int .i64 s ∧ ms.length = ds.length + s ∧ ns.length = es.length + s ∧ NkS w LB (.slice da ds.length dc) (.slice ao es.length cap) id lo hi gen wx v u ms ns) (fun i _ => 20 - (intOf i).toNat)
          case atStart => exact ⟨0, _, _, qs, rs, by omega, rfl, HQ.out, HR.out, HSt.out⟩
          case round =>
            rename World => wx
            obtain ⟨s, v, u, ms, ns, hs, rfl, hm, hn, hS⟩ := hrel
            have HSx : Hid (NkS w LB (.slice da ds.length dc) (.slice ao es.length cap) id lo hi gen wx v u ms ns) := hS
            have HM : Hid (ms.length = ds.length + s) := hm
            have HN : Hid (ns.length = es.length + s) := hn
            clear hS hm hn HSt
            have c3 : wx.cell? ⟨w.heap.size, 3, none⟩ = some v := HSx.out.c3
            by_cases h3 : s < 20
            · obtain ⟨a1, n1, p1, rfl⟩ := HSx.out.od.isSlice
              have HLen : Hid ((ms.length + 1) * 40 ≤ 140737488355328) := by have := HM.out; show _ ≤ _; omega
              have HLen2 : Hid ((ns.length + 1) * 32 ≤ 140737488355328) := by have := HN.out; show _ ≤ _; omega
              go_wp2_with (at_builtin; refine hideG ?_)
              change wpList _ _ _ _ _ _
              refine app_dtL (by rfl) _ _ (by rfl) LB _ ms ⟨0, ⟨#[121]⟩, ⟨#[109, 111, 114, 101]⟩⟩ HSx.out.od (by rfl) _ rfl (by rfl) HLen.out (Nat.le_trans HSx.out.lb (Nat.le_of_lt HSx.out.m.lt)) ?_
              intro v' w' ho hbl' hs' hk' hl'
              obtain ⟨a2, n2, p2, rfl⟩ := ho.isSlice
              obtain ⟨hM, hS'⟩ := HSx.out.appT ho hbl' hs' hk' hl'
              have HS' : Hid _ := hS'
              have u3 : w'.cell? ⟨w.heap.size, 3, none⟩ = some (.slice a1 n1 p1) := hM.cell 3
              have u4 := hM.free 3
              clear ho hbl' hs' hk' hl' hM c3
              have c5 : (w'.setCell ⟨w.heap.size, 3, none⟩ (.slice a2 n2 p2)).cell? ⟨w.heap.size, 5, none⟩ = some u := hS'.c5
              clear hS'
              obtain ⟨b1, m1, r1, rfl⟩ := HS'.out.oe.isSlice
              go_wp2_with (at_builtin; refine hideG ?_)
              change wpList _ _ _ _ _ _
              have hszy : w'.heap.size = (w'.setCell ⟨w.heap.size, 3, none⟩ (.slice a2 n2 p2)).heap.size := by simp
              generalize w'.setCell ⟨w.heap.size, 3, none⟩ (.slice a2 n2 p2) = wy at *
              refine app_erL (by rfl) _ _ (by rfl) LB _ ns ⟨9, 0, ⟨#[121]⟩⟩ HS'.out.oe (by rfl) w'.heap.size hszy (by rfl) HLen2.out (Nat.le_trans HS'.out.lb (Nat.le_of_lt HS'.out.m.lt)) ?_
              intro v2 w2 ho hbl' hs' hk' hl'
              obtain ⟨b2, m2, r2, rfl⟩ := ho.isSlice
              obtain ⟨hM, hS2⟩ := HS'.out.appE ho hbl' hs' hk' hl'
              have HS2 : Hid _ := hS2
              have y3 : w2.cell? ⟨w.heap.size, 5, none⟩ = some (.slice b1 m1 r1) := hM.cell 5
              have y4 := hM.free 5
              clear ho hbl' hs' hk' hl' hM hS2 c5 u3 u4
              go_wp2
              go_roundw
              case rel => exact ⟨s + 1, _, _, _, _, by omega, by go_num, by rw [List.length_append, HM.out]; simp only [List.length_cons, List.length_nil]; omega, by rw [List.length_append, HN.out]; simp only [List.length_cons, List.length_nil]; omega, HS2.out⟩
              case measure => simp [intOf]; omega
            · clear c3
              go_wp2
              go_end0
              exact ⟨rfl, HSx.out.bel, HSx.out.keep⟩
end Go.Proofs.YtbfjnidpjmhfiaaGreatDoor

namespace Go.Proofs.YtbfjnidpjmhfiaaGreatDoor
set_option linter.unusedSimpArgs false
open Go.ChangeShapes Go.WideShapes Go.ChangeAt Go.RowKit
set_option linter.unusedVariables false
set_option maxRecDepth 100000
theorem cellsEr : Tryz.prog.cellsOf 33 = 3 := by kernel_rfl
theorem cellsDt : Tryz.prog.cellsOf 31 = 3 := by kernel_rfl
theorem cellsFp : Tryz.prog.cellsOf 26 = 6 := by kernel_rfl
theorem cellsId : Tryz.prog.cellsOf 3 = 1 := by kernel_rfl
theorem cellsUd : Tryz.prog.cellsOf 22 = 1 := by kernel_rfl
theorem cellsSd : Tryz.prog.cellsOf 9 = 1 := by kernel_rfl
theorem cellsLe : Tryz.prog.cellsOf 24 = 1 := by kernel_rfl
theorem cellsLd : Tryz.prog.cellsOf 23 = 1 := by kernel_rfl
theorem bytesEr : Tryz.prog.bytesOf 33 = 32 := by kernel_rfl
theorem bytesDt : Tryz.prog.bytesOf 31 = 40 := by kernel_rfl
theorem some_of_ltD {A : Type} {xs : List A} {i n : Nat} (h : xs.length = n) (hi : i < n) : ∃ y, xs[i]? = some y := ⟨xs[i]'(by omega), List.getElem?_eq_getElem (by omega)⟩
theorem weights_mem_allD {H : Type} {P : Program} {e : TypeId} : ∀ {ds : List (DataW H)} {d : DataW H}, d ∈ ds → ∀ n ∈ d.weights P e, n ∈ DataW.weightsAll P e ds
  | d0 :: ds, d, hd, n, hn => by
    simp only [DataW.weightsAll, List.mem_append]
    rcases List.mem_cons.1 hd with rfl | hd
    · exact Or.inl hn
    · exact Or.inr (weights_mem_allD hd n hn)
theorem wf_u64 {x : Int} (h : (Lit.int .u64 x).wf = true) : 0 ≤ x ∧ x ≤ 18446744073709551615 := by
  have h1 := (bounds_u64 h).1
  have h2 := (bounds_u64 h).2
  omega
theorem tysDt : ∃ fs, Tryz.prog.underlying 31 = some (.struct fs) ∧ (fs.toList.map (·.type))[2]? = some 9 ∧ (fs.toList.map (·.type))[1]? = some 9 := ⟨_, Tryz.underlying31, rfl, rfl⟩
theorem tysEr : ∃ fs, Tryz.prog.underlying 33 = some (.struct fs) ∧ (fs.toList.map (·.type))[2]? = some 9 := ⟨_, Tryz.underlying33, rfl⟩
/-- How great the texts are. -/
def DT.room (R : Nat) (d : DT) : Prop := d.key.size ≤ R ∧ d.data.size ≤ R
def ER.room (R : Nat) (d : ER) : Prop := d.key.size ≤ R
/-- One erasure read: its three cells. -/
theorem open_oneEr {H : Type} {enc : TypeId × Value → H} {W : World} {sp : Nat → Bool} {hd : Bool} {n : Nat} {cs : List Value} {y : DataW H × List MemPlace} (h : DataW.trod enc Tryz.prog W 0 sp hd n 33 cs = some y) :
    ∃ v : ER, cs = cellE v ∧ v.wf ∧ (∀ R, (∀ n ∈ y.1.weights Tryz.prog 33, n ≤ R) → v.room R) := by
  obtain ⟨xs, m, _, rfl, hl, hlen, hf⟩ := DataW.trod_struct Tryz.underlying33 h
  rw [cellsEr] at hl
  obtain ⟨c0, c1, c2, rfl⟩ : ∃ c0 c1 c2, cs = [c0, c1, c2] := by
    match cs, hl with
    | [c0, c1, c2], _ => exact ⟨c0, c1, c2, rfl⟩
  have hlen3 : xs.length = 3 := hlen
  obtain ⟨y0, e0⟩ := some_of_ltD (i := 0) hlen3 (by omega)
  obtain ⟨y1, e1⟩ := some_of_ltD (i := 1) hlen3 (by omega)
  obtain ⟨y2, e2⟩ := some_of_ltD (i := 2) hlen3 (by omega)
  obtain ⟨a0, q0, _, w0⟩ := DataW.trod_int (k := .u64) (by kernel_rfl) ((hf 0 _ rfl).trans e0)
  obtain ⟨a1, q1, _, w1⟩ := DataW.trod_int (k := .u64) (by kernel_rfl) ((hf 1 _ rfl).trans e1)
  obtain ⟨a2, q2, rfl, w2⟩ := DataW.trod_string (by kernel_rfl) ((hf 2 _ rfl).trans e2)
  change List.take (Tryz.prog.cellsOf 22) (List.drop 0 [c0, c1, c2]) = _ at q0
  change List.take (Tryz.prog.cellsOf 22) (List.drop 1 [c0, c1, c2]) = _ at q1
  change List.take (Tryz.prog.cellsOf 9) (List.drop 2 [c0, c1, c2]) = _ at q2
  rw [cellsUd] at q0 q1
  rw [cellsSd] at q2
  simp at q0 q1 q2
  subst q0 q1 q2
  obtain ⟨fs, hu, ht2⟩ := tysEr
  refine ⟨⟨a0, a1, a2⟩, rfl, ⟨(wf_u64 w0).1, (wf_u64 w0).2, (wf_u64 w1).1, (wf_u64 w1).2⟩, fun R hR => ?_⟩
  have := hR a2.data.toList.length (by
    simp only [DataW.weights, hu]
    have hx : (List.map (fun x => x.fst) xs)[2]? = some (.lit (.string a2.data.toList)) := by simp [e2]
    exact DataW.weights_mem_each ht2 hx _ (by simp [DataW.weights]))
  rwa [Array.length_toList] at this
/-- One datum read. -/
theorem open_oneDt {H : Type} {enc : TypeId × Value → H} {W : World} {sp : Nat → Bool} {hd : Bool} {n : Nat} {cs : List Value} {y : DataW H × List MemPlace} (h : DataW.trod enc Tryz.prog W 0 sp hd n 31 cs = some y) :
    ∃ v : DT, cs = cellT v ∧ v.wf ∧ (∀ R, (∀ n ∈ y.1.weights Tryz.prog 31, n ≤ R) → v.room R) := by
  obtain ⟨xs, m, _, rfl, hl, hlen, hf⟩ := DataW.trod_struct Tryz.underlying31 h
  rw [cellsDt] at hl
  obtain ⟨c0, c1, c2, rfl⟩ : ∃ c0 c1 c2, cs = [c0, c1, c2] := by
    match cs, hl with
    | [c0, c1, c2], _ => exact ⟨c0, c1, c2, rfl⟩
  have hlen3 : xs.length = 3 := hlen
  obtain ⟨y0, e0⟩ := some_of_ltD (i := 0) hlen3 (by omega)
  obtain ⟨y1, e1⟩ := some_of_ltD (i := 1) hlen3 (by omega)
  obtain ⟨y2, e2⟩ := some_of_ltD (i := 2) hlen3 (by omega)
  obtain ⟨a0, q0, _, w0⟩ := DataW.trod_int (k := .u64) (by kernel_rfl) ((hf 0 _ rfl).trans e0)
  obtain ⟨a1, q1, rfl, w1⟩ := DataW.trod_string (by kernel_rfl) ((hf 1 _ rfl).trans e1)
  obtain ⟨a2, q2, rfl, w2⟩ := DataW.trod_string (by kernel_rfl) ((hf 2 _ rfl).trans e2)
  change List.take (Tryz.prog.cellsOf 22) (List.drop 0 [c0, c1, c2]) = _ at q0
  change List.take (Tryz.prog.cellsOf 9) (List.drop 1 [c0, c1, c2]) = _ at q1
  change List.take (Tryz.prog.cellsOf 9) (List.drop 2 [c0, c1, c2]) = _ at q2
  rw [cellsUd] at q0
  rw [cellsSd] at q1 q2
  simp at q0 q1 q2
  subst q0 q1 q2
  obtain ⟨fs, hu, ht2, ht1⟩ := tysDt
  refine ⟨⟨a0, a1, a2⟩, rfl, ⟨(wf_u64 w0).1, (wf_u64 w0).2⟩, fun R hR => ⟨?_, ?_⟩⟩
  · have := hR a1.data.toList.length (by
      simp only [DataW.weights, hu]
      have hx : (List.map (fun x => x.fst) xs)[1]? = some (.lit (.string a1.data.toList)) := by simp [e1]
      exact DataW.weights_mem_each ht1 hx _ (by simp [DataW.weights]))
    rwa [Array.length_toList] at this
  · have := hR a2.data.toList.length (by
      simp only [DataW.weights, hu]
      have hx : (List.map (fun x => x.fst) xs)[2]? = some (.lit (.string a2.data.toList)) := by simp [e2]
      exact DataW.weights_mem_each ht2 hx _ (by simp [DataW.weights]))
    rwa [Array.length_toList] at this
/-- A list of them read. -/
theorem open_ers {H : Type} {enc : TypeId × Value → H} {W : World} {fuel : Nat} {c : Value} {x : DataW H × List MemPlace} (hf : DataW.trod enc Tryz.prog W 0 (fun _ => true) true fuel 24 [c] = some x) :
    ∃ (a : Option Addr) (len cap : Nat) (vs : List ER), c = .slice a len cap ∧ (a = none → len = 0 ∧ cap = 0) ∧ vs.length = len ∧ SeesE W W.heap.size a vs ∧ (∀ ad, a = some ad → vs ≠ [] → ∃ b off, ad = ⟨b, off, none⟩) ∧ (∀ v ∈ vs, v.wf) ∧ (∀ R, (∀ n ∈ x.1.weights Tryz.prog 24, n ≤ R) → len * 32 ≤ R ∧ ∀ v ∈ vs, v.room R) := by
  rcases Deep.open_slice Tryz.underlying24 hf with ⟨hcs, rfl⟩ | ⟨x, l, cp, m, n, D, Pl, hcs, _, hl, hm, hmm, rfl, hx⟩
  · simp only [List.cons.injEq, and_true] at hcs
    subst hcs
    exact ⟨none, 0, 0, [], rfl, fun _ => ⟨rfl, rfl⟩, rfl, (fun i hi => by simp at hi), (fun ad h => by cases h), (fun v hv => by simp at hv), fun R _ => ⟨by omega, fun v hv => by simp at hv⟩⟩
  · simp only [List.cons.injEq, and_true] at hcs
    subst hcs
    simp only [if_true] at hmm
    subst hmm
    have each : ∀ i, i < l → ∃ v : ER, (∀ j (hj : j < 3), W.cell? ((x.add (i * 3)).add j) = (cellE v)[j]?) ∧ v.wf ∧ (∀ R, (∀ n ∈ (D i).weights Tryz.prog 33, n ≤ R) → v.room R) := by
      intro i hi
      obtain ⟨cs, h1, h2⟩ := hx i (by omega)
      rw [cellsEr] at h1
      obtain ⟨v, rfl, hv⟩ := open_oneEr h2
      obtain ⟨_, _, hc⟩ := World.cells?_some h1
      refine ⟨v, fun j hj => ?_, hv⟩
      have := hc j hj
      rw [this]
    have hch : ∃ f : Nat → ER, ∀ i, i < l → (∀ j (hj : j < 3), W.cell? ((x.add (i * 3)).add j) = (cellE (f i))[j]?) ∧ (f i).wf ∧ (∀ R, (∀ n ∈ (D i).weights Tryz.prog 33, n ≤ R) → (f i).room R) := by
      refine ⟨fun i => if h : i < l then Classical.choose (each i h) else ⟨0, 0, ByteArray.empty⟩, fun i hi => ?_⟩
      simp only [dif_pos hi]
      exact Classical.choose_spec (each i hi)
    obtain ⟨f, hfs⟩ := hch
    have hspot : 0 < l → ∃ b off, x = ⟨b, off, none⟩ := fun h0 => by
      obtain ⟨b, off, spot⟩ := x
      have hs : spot = none := by
        have hsp := World.cell?_spot (show W.cell? (((⟨b, off, spot⟩ : Addr).add (0 * 3)).add 0) = some (.int .u64 (f 0).beg) from (hfs 0 h0).1 0 (by omega))
        simpa [Addr.add] using hsp
      exact ⟨b, off, by rw [hs]⟩
    refine ⟨some x, l, _, (List.range l).map f, rfl, (fun h => by cases h), by simp, fun i hi => ?_, fun ad e hne => ?_, fun v hv => ?_, fun R hR => ?_⟩
    · have hi' : i < l := by simpa using hi
      obtain ⟨b, off, rfl⟩ := hspot (by omega)
      have hc := (hfs i hi').1
      have ea : ∀ o k, (⟨b, o, none⟩ : Addr).add k = ⟨b, o + k, none⟩ := fun o k => by unfold Addr.add; split <;> simp_all
      have hc' : ∀ j (hj : j < 3), W.cell? ⟨b, off + i * 3 + j, none⟩ = (cellE (f i))[j]? := fun j hj => by have := hc j hj; rwa [ea, ea] at this
      have c0 : W.cell? ⟨b, off + i * 3, none⟩ = some (.int .u64 (f i).beg) := hc' 0 (by omega)
      have hb : b < W.heap.size := by
        rcases Nat.lt_or_ge b W.heap.size with h | h
        · exact h
        · unfold World.cell? at c0
          simp [Array.getElem?_eq_none h] at c0
      refine ⟨b, off, rfl, hb, ?_⟩
      simp only [List.getElem_map, List.getElem_range]
      exact ⟨c0, hc' 1 (by omega), hc' 2 (by omega)⟩
    · cases e
      refine hspot ?_
      rcases Nat.eq_zero_or_pos l with h | h
      · subst h; simp at hne
      · exact h
    · obtain ⟨i, hi, rfl⟩ := List.mem_map.1 hv
      exact (hfs i (by simpa using hi)).2.1
    · simp only [DataW.weights, Tryz.underlying24] at hR
      refine ⟨?_, fun o ho => ?_⟩
      · have := hR _ List.mem_cons_self
        rw [bytesEr] at this
        simp only [List.length_map, List.length_range] at this
        omega
      · obtain ⟨i, hi, rfl⟩ := List.mem_map.1 ho
        refine (hfs i (by simpa using hi)).2.2 R fun n hn => hR n ?_
        refine List.mem_cons_of_mem _ (List.mem_append_left _ (weights_mem_allD (List.mem_map.2 ⟨i, hi, rfl⟩) n hn))
/-- A list of them read. -/
theorem open_dts {H : Type} {enc : TypeId × Value → H} {W : World} {fuel : Nat} {c : Value} {x : DataW H × List MemPlace} (hf : DataW.trod enc Tryz.prog W 0 (fun _ => true) true fuel 23 [c] = some x) :
    ∃ (a : Option Addr) (len cap : Nat) (vs : List DT), c = .slice a len cap ∧ (a = none → len = 0 ∧ cap = 0) ∧ vs.length = len ∧ SeesT W W.heap.size a vs ∧ (∀ ad, a = some ad → vs ≠ [] → ∃ b off, ad = ⟨b, off, none⟩) ∧ (∀ v ∈ vs, v.wf) ∧ (∀ R, (∀ n ∈ x.1.weights Tryz.prog 23, n ≤ R) → len * 40 ≤ R ∧ ∀ v ∈ vs, v.room R) := by
  rcases Deep.open_slice Tryz.underlying23 hf with ⟨hcs, rfl⟩ | ⟨x, l, cp, m, n, D, Pl, hcs, _, hl, hm, hmm, rfl, hx⟩
  · simp only [List.cons.injEq, and_true] at hcs
    subst hcs
    exact ⟨none, 0, 0, [], rfl, fun _ => ⟨rfl, rfl⟩, rfl, (fun i hi => by simp at hi), (fun ad h => by cases h), (fun v hv => by simp at hv), fun R _ => ⟨by omega, fun v hv => by simp at hv⟩⟩
  · simp only [List.cons.injEq, and_true] at hcs
    subst hcs
    simp only [if_true] at hmm
    subst hmm
    have each : ∀ i, i < l → ∃ v : DT, (∀ j (hj : j < 3), W.cell? ((x.add (i * 3)).add j) = (cellT v)[j]?) ∧ v.wf ∧ (∀ R, (∀ n ∈ (D i).weights Tryz.prog 31, n ≤ R) → v.room R) := by
      intro i hi
      obtain ⟨cs, h1, h2⟩ := hx i (by omega)
      rw [cellsDt] at h1
      obtain ⟨v, rfl, hv⟩ := open_oneDt h2
      obtain ⟨_, _, hc⟩ := World.cells?_some h1
      refine ⟨v, fun j hj => ?_, hv⟩
      have := hc j hj
      rw [this]
    have hch : ∃ f : Nat → DT, ∀ i, i < l → (∀ j (hj : j < 3), W.cell? ((x.add (i * 3)).add j) = (cellT (f i))[j]?) ∧ (f i).wf ∧ (∀ R, (∀ n ∈ (D i).weights Tryz.prog 31, n ≤ R) → (f i).room R) := by
      refine ⟨fun i => if h : i < l then Classical.choose (each i h) else ⟨0, ByteArray.empty, ByteArray.empty⟩, fun i hi => ?_⟩
      simp only [dif_pos hi]
      exact Classical.choose_spec (each i hi)
    obtain ⟨f, hfs⟩ := hch
    have hspot : 0 < l → ∃ b off, x = ⟨b, off, none⟩ := fun h0 => by
      obtain ⟨b, off, spot⟩ := x
      have hs : spot = none := by
        have hsp := World.cell?_spot (show W.cell? (((⟨b, off, spot⟩ : Addr).add (0 * 3)).add 0) = some (.int .u64 (f 0).beg) from (hfs 0 h0).1 0 (by omega))
        simpa [Addr.add] using hsp
      exact ⟨b, off, by rw [hs]⟩
    refine ⟨some x, l, _, (List.range l).map f, rfl, (fun h => by cases h), by simp, fun i hi => ?_, fun ad e hne => ?_, fun v hv => ?_, fun R hR => ?_⟩
    · have hi' : i < l := by simpa using hi
      obtain ⟨b, off, rfl⟩ := hspot (by omega)
      have hc := (hfs i hi').1
      have ea : ∀ o k, (⟨b, o, none⟩ : Addr).add k = ⟨b, o + k, none⟩ := fun o k => by unfold Addr.add; split <;> simp_all
      have hc' : ∀ j (hj : j < 3), W.cell? ⟨b, off + i * 3 + j, none⟩ = (cellT (f i))[j]? := fun j hj => by have := hc j hj; rwa [ea, ea] at this
      have c0 : W.cell? ⟨b, off + i * 3, none⟩ = some (.int .u64 (f i).beg) := hc' 0 (by omega)
      have hb : b < W.heap.size := by
        rcases Nat.lt_or_ge b W.heap.size with h | h
        · exact h
        · unfold World.cell? at c0
          simp [Array.getElem?_eq_none h] at c0
      refine ⟨b, off, rfl, hb, ?_⟩
      simp only [List.getElem_map, List.getElem_range]
      exact ⟨c0, hc' 1 (by omega), hc' 2 (by omega)⟩
    · cases e
      refine hspot ?_
      rcases Nat.eq_zero_or_pos l with h | h
      · subst h; simp at hne
      · exact h
    · obtain ⟨i, hi, rfl⟩ := List.mem_map.1 hv
      exact (hfs i (by simpa using hi)).2.1
    · simp only [DataW.weights, Tryz.underlying23] at hR
      refine ⟨?_, fun o ho => ?_⟩
      · have := hR _ List.mem_cons_self
        rw [bytesDt] at this
        simp only [List.length_map, List.length_range] at this
        omega
      · obtain ⟨i, hi, rfl⟩ := List.mem_map.1 ho
        refine (hfs i (by simpa using hi)).2.2 R fun n hn => hR n ?_
        refine List.mem_cons_of_mem _ (List.mem_append_left _ (weights_mem_allD (List.mem_map.2 ⟨i, hi, rfl⟩) n hn))
theorem tysFp : ∃ fs, Tryz.prog.underlying 26 = some (.struct fs) ∧ (fs.toList.map (·.type))[3]? = some 23 ∧ (fs.toList.map (·.type))[5]? = some 24 := ⟨_, Tryz.underlying26, rfl, rfl⟩
/-- What is known of a pair that came in. -/
structure FpIn (W : World) (lo hi : Int) (da : Option Addr) (dn dc : Nat) (ao : Option Addr) (en ec : Nat) (ds : List DT) (es : List ER) : Prop where
  dnil : da = none → dn = 0 ∧ dc = 0
  dlen : ds.length = dn
  dsee : SeesT W W.heap.size da ds
  dat : ∀ ad, da = some ad → ds ≠ [] → ∃ b off, ad = ⟨b, off, none⟩
  dwf : ∀ v ∈ ds, v.wf
  enil : ao = none → en = 0 ∧ ec = 0
  elen : es.length = en
  esee : SeesE W W.heap.size ao es
  eat : ∀ ad, ao = some ad → es ≠ [] → ∃ b off, ad = ⟨b, off, none⟩
  ewf : ∀ v ∈ es, v.wf
  lo0 : 0 ≤ lo ∧ lo ≤ 18446744073709551615
  hi0 : 0 ≤ hi ∧ hi ≤ 18446744073709551615
/-- A pair read. -/
theorem open_fp {H : Type} {enc : TypeId × Value → H} {W : World} {fuel : Nat} {cs : List Value} {x : DataW H × List MemPlace} (h : DataW.trod enc Tryz.prog W 0 (fun _ => true) true fuel 26 cs = some x) :
    ∃ (id lo hi : Int) (da : Option Addr) (dn dc : Nat) (gn : Int) (ao : Option Addr) (en ec : Nat) (ds : List DT) (es : List ER), cs = [.int .i64 id, .int .u64 lo, .int .u64 hi, .slice da dn dc, .int .i64 gn, .slice ao en ec] ∧ FpIn W lo hi da dn dc ao en ec ds es ∧ (∀ R, (∀ n ∈ x.1.weights Tryz.prog 26, n ≤ R) → (dn * 40 ≤ R ∧ ∀ v ∈ ds, v.room R) ∧ en * 32 ≤ R ∧ ∀ v ∈ es, v.room R) := by
  obtain ⟨xs, m, _, rfl, hl, hlen, hf⟩ := DataW.trod_struct Tryz.underlying26 h
  rw [cellsFp] at hl
  obtain ⟨c0, c1, c2, c3, c4, c5, rfl⟩ : ∃ c0 c1 c2 c3 c4 c5, cs = [c0, c1, c2, c3, c4, c5] := by
    match cs, hl with
    | [c0, c1, c2, c3, c4, c5], _ => exact ⟨c0, c1, c2, c3, c4, c5, rfl⟩
  have hlen6 : xs.length = 6 := hlen
  obtain ⟨y0, e0⟩ := some_of_ltD (i := 0) hlen6 (by omega)
  obtain ⟨y1, e1⟩ := some_of_ltD (i := 1) hlen6 (by omega)
  obtain ⟨y2, e2⟩ := some_of_ltD (i := 2) hlen6 (by omega)
  obtain ⟨y3, e3⟩ := some_of_ltD (i := 3) hlen6 (by omega)
  obtain ⟨y4, e4⟩ := some_of_ltD (i := 4) hlen6 (by omega)
  obtain ⟨y5, e5⟩ := some_of_ltD (i := 5) hlen6 (by omega)
  obtain ⟨a0, q0, _, w0⟩ := DataW.trod_int (k := .i64) (by kernel_rfl) ((hf 0 _ rfl).trans e0)
  obtain ⟨a1, q1, _, w1⟩ := DataW.trod_int (k := .u64) (by kernel_rfl) ((hf 1 _ rfl).trans e1)
  obtain ⟨a2, q2, _, w2⟩ := DataW.trod_int (k := .u64) (by kernel_rfl) ((hf 2 _ rfl).trans e2)
  obtain ⟨a4, q4, _, w4⟩ := DataW.trod_int (k := .i64) (by kernel_rfl) ((hf 4 _ rfl).trans e4)
  have f3 := (hf 3 _ rfl).trans e3
  have f5 := (hf 5 _ rfl).trans e5
  change List.take (Tryz.prog.cellsOf 3) (List.drop 0 [c0, c1, c2, c3, c4, c5]) = _ at q0
  change List.take (Tryz.prog.cellsOf 22) (List.drop 1 [c0, c1, c2, c3, c4, c5]) = _ at q1
  change List.take (Tryz.prog.cellsOf 22) (List.drop 2 [c0, c1, c2, c3, c4, c5]) = _ at q2
  change List.take (Tryz.prog.cellsOf 3) (List.drop 4 [c0, c1, c2, c3, c4, c5]) = _ at q4
  rw [cellsId] at q0 q4
  rw [cellsUd] at q1 q2
  simp at q0 q1 q2 q4
  subst q0 q1 q2 q4
  change DataW.trod enc Tryz.prog W 0 (fun _ => true) true m 23 (List.take (Tryz.prog.cellsOf 23) (List.drop 3 [.int .i64 a0, .int .u64 a1, .int .u64 a2, c3, .int .i64 a4, c5])) = _ at f3
  change DataW.trod enc Tryz.prog W 0 (fun _ => true) true m 24 (List.take (Tryz.prog.cellsOf 24) (List.drop 5 [.int .i64 a0, .int .u64 a1, .int .u64 a2, c3, .int .i64 a4, c5])) = _ at f5
  rw [cellsLd] at f3
  rw [cellsLe] at f5
  obtain ⟨da, dn, dc, ds, rfl, d1, d2, d3, d4, d5, d6⟩ := open_dts (c := c3) f3
  obtain ⟨ao, en, ec, es, rfl, k1, k2, k3, k4, k5, k6⟩ := open_ers (c := c5) f5
  obtain ⟨fs, hu, ht3, ht5⟩ := tysFp
  refine ⟨a0, a1, a2, da, dn, dc, a4, ao, en, ec, ds, es, rfl, ⟨d1, d2, d3, d4, d5, k1, k2, k3, k4, k5, wf_u64 w1, wf_u64 w2⟩, fun R hR => ⟨d6 R (fun n hn => hR n ?_), k6 R (fun n hn => hR n ?_)⟩⟩
  · simp only [DataW.weights, hu]
    exact DataW.weights_mem_each ht3 (by simp [e3]) n hn
  · simp only [DataW.weights, hu]
    exact DataW.weights_mem_each ht5 (by simp [e5]) n hn
end Go.Proofs.YtbfjnidpjmhfiaaGreatDoor
