import Derived.Test.YtgopplgknplkiaaGreatDoorDe20
import Derived.Maps.AppendAt
namespace Go.Proofs.YtgopplgknplkiaaGreatDoor
set_option linter.unusedSimpArgs false
open Go.ChangeShapes Go.WideShapes Go.ChangeAt Go.RowKit Go.Maps
set_option linter.unusedVariables false
set_option maxRecDepth 100000
/-- What stands while the lists of a pair are turned: nothing but their two rows is changed. -/
structure BwS (w : World) (B : Nat) (id lo hi gen : Int) (v u : Value) (W : World) (ds : List DT) (es : List ER) : Prop where
  p : Fp6 W w.heap.size (.int .i64 id) (.int .u64 lo) (.int .u64 hi) v (.int .i64 gen) u
  od : ownT W B v ds
  oe : ownE W B u es
  bel : Below B w W
  lb : B ≤ w.heap.size
  keep : ∀ k, k < w.heap.size → v.ownBlock ≠ some k → u.ownBlock ≠ some k → W.heap[k]? = w.heap[k]?
  lv : ∀ k, v.ownBlock = some k → k < w.heap.size
  lu : ∀ k, u.ownBlock = some k → k < w.heap.size
theorem BwS.drew {w : World} {B : Nat} {id lo hi gen : Int} {v u : Value} {W : World} {ds : List DT} {es : List ER} (h : BwS w B id lo hi gen v u W ds es) : BwS w B id lo hi gen v u W.drew ds es :=
  ⟨h.p, h.od.later (Below.refl _ _).drew, h.oe.later (Below.refl _ _).drew, h.bel.drew, h.lb, h.keep, h.lv, h.lu⟩
theorem BwS.c3 {w : World} {B : Nat} {id lo hi gen : Int} {v u : Value} {W : World} {ds : List DT} {es : List ER} (h : BwS w B id lo hi gen v u W ds es) : W.cell? ⟨w.heap.size, 3, none⟩ = some v := h.p.cell 3
theorem BwS.c5 {w : World} {B : Nat} {id lo hi gen : Int} {v u : Value} {W : World} {ds : List DT} {es : List ER} (h : BwS w B id lo hi gen v u W ds es) : W.cell? ⟨w.heap.size, 5, none⟩ = some u := h.p.cell 5
theorem BwS.layT {w : World} {B : Nat} {id lo hi gen : Int} {gr n cap : Nat} {u : Value} {W : World} {ds : List DT} {es : List ER} (h : BwS w B id lo hi gen (.slice (some ⟨gr, 0, none⟩) n cap) u W ds es) (hn : ds.length = n) (k : Nat) (hk : k < n) (x : DT) : BwS w B id lo hi gen (.slice (some ⟨gr, 0, none⟩) n cap) u (putT W gr k x) (ds.set k x) es := by
  have hlo := (h.od.own gr rfl).1
  have hlt := h.lv gr rfl
  exact ⟨(putT_heap W gr k x _ (by omega)).trans h.p, h.od.put hn k hk x, h.oe.keep (fun g hg => putT_heap W gr k x g (fun e => by subst e; exact h.od.ne h.oe rfl hg)), putT_below h.bel hlo k x, h.lb, fun g hg h1 h2 => (putT_heap W gr k x g (fun e => h1 (by rw [e]; rfl))).trans (h.keep g hg h1 h2), h.lv, h.lu⟩
theorem BwS.layE {w : World} {B : Nat} {id lo hi gen : Int} {gr n cap : Nat} {v : Value} {W : World} {ds : List DT} {es : List ER} (h : BwS w B id lo hi gen v (.slice (some ⟨gr, 0, none⟩) n cap) W ds es) (hn : es.length = n) (k : Nat) (hk : k < n) (x : ER) : BwS w B id lo hi gen v (.slice (some ⟨gr, 0, none⟩) n cap) (putE W gr k x) ds (es.set k x) := by
  have hlo := (h.oe.own gr rfl).1
  have hlt := h.lu gr rfl
  exact ⟨(putE_heap W gr k x _ (by omega)).trans h.p, h.od.keep (fun g hg => putE_heap W gr k x g (fun e => by subst e; exact h.od.ne h.oe hg rfl)), h.oe.put hn k hk x, putE_below h.bel hlo k x, h.lb, fun g hg h1 h2 => (putE_heap W gr k x g (fun e => h2 (by rw [e]; rfl))).trans (h.keep g hg h1 h2), h.lv, h.lu⟩
theorem BwS.turn {w : World} {B : Nat} {id lo hi gen : Int} {gr cap : Nat} {u : Value} {W : World} {m : DT} {es : List ER} (h : BwS w B id lo hi gen (.slice (some ⟨gr, 0, none⟩) 1 cap) u W [m] es) (d : ByteArray) : BwS w B id lo hi gen (.slice (some ⟨gr, 0, none⟩) 1 cap) u (W.setCell ⟨gr, 2, none⟩ (.string d)) [{ m with data := d }] es := by
  have hlo := (h.od.own gr rfl).1
  have hlt := h.lv gr rfl
  exact ⟨h.p.other (p := ⟨gr, 2, none⟩) _ (by simp only; omega), h.od.turn d, h.oe.keep (fun g hg => Below.heap_setCell _ _ _ g (fun e => by have e' : g = gr := e; subst e'; exact h.od.ne h.oe rfl hg)), h.bel.setCell (p := ⟨gr, 2, none⟩) hlo _, h.lb, fun g hg h1 h2 => (Below.heap_setCell _ _ _ g (fun e => h1 (by have e' : g = gr := e; rw [e']; rfl))).trans (h.keep g hg h1 h2), h.lv, h.lu⟩
/-- Behind backwards. -/
def BwP (w : World) (B : Nat) (v u : Value) (n m : Nat) (e : Ending) (w' : World) : Prop := e = .returned (.tuple #[]) ∧ Below B w w' ∧ (∀ k, k < w.heap.size → v.ownBlock ≠ some k → u.ownBlock ≠ some k → w'.heap[k]? = w.heap[k]?) ∧ ∃ ds es, ds.length = n ∧ es.length = m ∧ (∀ p ∈ es, p.wf) ∧ ownT w' B v ds ∧ ownE w' B u es
theorem BwS.post {w : World} {B : Nat} {id lo hi gen : Int} {v u : Value} {W : World} {ds : List DT} {es : List ER} {n m : Nat} (h : BwS w B id lo hi gen v u W ds es) (hn : ds.length = n) (hm : es.length = m) (hw : ∀ p ∈ es, p.wf) : BwP w B v u n m (.returned (.tuple #[])) W := ⟨rfl, h.bel, h.keep, ds, es, hn, hm, hw, h.od, h.oe⟩
set_option maxHeartbeats 25600000 in
theorem backwards_any (w : World) (B : Nat) (id lo hi gen : Int) (da ao : Option Addr) (dc cap : Nat) (ds : List DT) (es : List ER) (hd : ownT w B (.slice da ds.length dc) ds) (he : ownE w B (.slice ao es.length cap) es) (hB : B ≤ w.heap.size) (hw : ∀ p ∈ es, p.wf) (hds : ∀ d ∈ ds, d.data.size ≤ 140737488355328) (hdl : ds.length ≤ 9000000000000) (hel : es.length ≤ 9000000000000) :
    Calls Tryz.prog 9 #[.agg #[.int .i64 id, .int .u64 lo, .int .u64 hi, .slice da ds.length dc, .int .i64 gen, .slice ao es.length cap]] w (BwP w B (.slice da ds.length dc) (.slice ao es.length cap) ds.length es.length) := by
  have HS0 : Hid (BwS w B id lo hi gen (.slice da ds.length dc) (.slice ao es.length cap) (w.alloc (.cells #[.int .i64 id, .int .u64 lo, .int .u64 hi, .slice da ds.length dc, .int .i64 gen, .slice ao es.length cap] 26)) ds es) := ⟨heap_alloc_new w _, hd.alloc _, he.alloc _, (Below.refl _ _).alloc hB _, hB, fun k hk _ _ => Below.heap_alloc _ _ k hk, fun k hk => (World.ownsRow.lt hd k hk).2, fun k hk => (World.ownsRow.lt he k hk).2⟩
  have HW : Hid _ := hw
  have HDs : Hid (∀ d ∈ ds, d.data.size ≤ 140737488355328) := hds
  clear hd he hw hds
  have g3 := HS0.out.c3
  go_enter Tryz.func9, Tryz.ntmps9
  go_wp2_with fail
  generalize w.alloc (.cells #[.int .i64 id, .int .u64 lo, .int .u64 hi, .slice da ds.length dc, .int .i64 gen, .slice ao es.length cap] 26) = W0 at *
  go_loopw [3] (fun i wr => ∃ (k : Nat) (qs : List DT), k ≤ ds.length / 2 ∧ i = .int .i64 k ∧ qs.length = ds.length ∧ (∀ d ∈ qs, d.data.size ≤ 140737488355328) ∧ BwS w B id lo hi gen (.slice da ds.length dc) (.slice ao es.length cap) wr qs es) (fun i _ => ds.length - (intOf i).toNat)
  case atStart => exact ⟨0, ds, by omega, rfl, rfl, HDs.out, HS0.out⟩
  case round =>
    obtain ⟨k, qs, hk, rfl, hq, hqw, hS⟩ := hrel
    have HQW : Hid (∀ d ∈ qs, d.data.size ≤ 140737488355328) := hqw
    clear hqw
    have HSk : Hid (BwS w B id lo hi gen (.slice da ds.length dc) (.slice ao es.length cap) wr qs es) := hS
    have HQ : Hid (qs.length = ds.length) := hq
    clear hS hq HS0 g3
    have g3 : wr.cell? ⟨w.heap.size, 3, none⟩ = some (.slice da ds.length dc) := HSk.out.c3
    have hdv : (ds.length : Int).tdiv 2 = ((ds.length / 2 : Nat) : Int) := by rw [Int.tdiv_eq_ediv_of_nonneg (by omega)]; omega
    by_cases h1 : k < ds.length / 2
    · obtain ⟨j, hj⟩ : ∃ j : Nat, j + 1 + k = ds.length := ⟨ds.length - 1 - k, by omega⟩
      have hjl : j < ds.length := by omega
      have hkl : k < ds.length := by omega
      have hkj : k < j := by omega
      have hw1 : IntKind.i64.wrap ((ds.length : Int) - 1) = (ds.length : Int) - 1 := by rw [IntKind.wrap_i64]; omega
      have hw2 : IntKind.i64.wrap ((ds.length : Int) - 1 - (k : Int)) = (j : Int) := by rw [IntKind.wrap_i64]; omega
      obtain ⟨gr, e, hge, hgr, hat, hfz⟩ := HSk.out.od.at k (by rw [HQ.out]; exact hkl)
      obtain ⟨p0, p1, p2⟩ := hat
      subst e
      obtain ⟨gr', e', _, _, hat2, _⟩ := HSk.out.od.at j (by rw [HQ.out]; exact hjl)
      obtain rfl : gr = gr' := by injection e' with e'; injection e'
      obtain ⟨q0, q1, q2⟩ := hat2
      have HX : Hid ((qs[k]'(by rw [HQ.out]; exact hkl)).data.size ≤ 140737488355328) := HQW.out _ (List.getElem_mem _)
      have HYy : Hid ((qs[j]'(by rw [HQ.out]; exact hjl)).data.size ≤ 140737488355328) := HQW.out _ (List.getElem_mem _)
      generalize qs[k]'(by rw [HQ.out]; exact hkl) = x at *
      generalize qs[j]'(by rw [HQ.out]; exact hjl) = y at *
      clear e'
      have hjj : (j : Int) < (ds.length : Int) := by omega
      have hkk : (k : Int) < (ds.length : Int) := by omega
      have z0 := hfz (k * 3)
      have z1 := hfz (k * 3 + 1)
      have z2 := hfz (k * 3 + 2)
      have HS1 : Hid _ := (HSk.out.layT HQ.out k hkl y).drew
      unfold Go.Proofs.YtgopplgknplkiaaGreatDoor.putT at HS1
      have HWs : Hid (∀ d ∈ (qs.set k y).set j x, d.data.size ≤ 140737488355328) := fun p hp => by
        rcases List.mem_or_eq_of_mem_set hp with h | h
        · rcases List.mem_or_eq_of_mem_set h with h | h
          · exact HQW.out p h
          · rw [h]; exact HYy.out
        · rw [h]; exact HX.out
      clear HX HYy
      clear hfz
      go_wp2_with fail
      (refine wp_region_held_drew (S := (fun W => W.cell? ⟨w.heap.size, 3, none⟩ = some (.slice (some ⟨gr, 0, none⟩) ds.length dc))) (by kernel_rfl) g3 (fun hHeld => ?_); simp only [List.size_toArray, List.length_cons, List.length_nil, Nat.reduceAdd, Array.replicate_succ, Array.replicate_zero, List.push_toArray, List.append_toArray, List.nil_append, List.cons_append])
      (refine tk0 (v := ?_) (by kernel_rfl) (by kernel_rfl) (by kernel_rfl) (fun _ _ _ h => h) (Or.inl ⟨by rfl, ?_⟩) (by assumption) ?_; rotate_left; (focus (intro w hSw; (try dsimp only at hSw); go_simp; (try first | (rw [dif_pos (by omega)]; simp only [Result.andThen_ok]) | rw [if_pos (by omega)]); (try with_reducible rfl); done)); try simp only [Act.put, List.setIfInBounds_toArray, List.set_cons_zero, List.set_cons_succ])
      (refine tk1 (v := ?_) (by kernel_rfl) (by kernel_rfl) (by kernel_rfl) (fun _ _ _ h => h) (Or.inl ⟨by rfl, ?_⟩) (by assumption) ?_; rotate_left; (focus (intro w hSw; (try dsimp only at hSw); go_simp; (try first | (rw [dif_pos (by omega)]; simp only [Result.andThen_ok]) | rw [if_pos (by omega)]); (try with_reducible rfl); done)); try simp only [Act.put, List.setIfInBounds_toArray, List.set_cons_zero, List.set_cons_succ])
      (refine tk2 (v := ?_) (by kernel_rfl) (by kernel_rfl) (by kernel_rfl) (fun _ _ _ h => h) (Or.inl ⟨by rfl, ?_⟩) (by assumption) ?_; rotate_left; (focus (intro w hSw; (try dsimp only at hSw); go_simp; (try first | (rw [dif_pos (by omega)]; simp only [Result.andThen_ok]) | rw [if_pos (by omega)]); (try with_reducible rfl); done)); try simp only [Act.put, List.setIfInBounds_toArray, List.set_cons_zero, List.set_cons_succ])
      (refine tk3 (v := ?_) (by kernel_rfl) (by kernel_rfl) (by kernel_rfl) (fun _ _ _ h => h) (Or.inl ⟨by rfl, ?_⟩) (by assumption) ?_; rotate_left; (focus (intro w hSw; (try dsimp only at hSw); go_simp; (try first | (rw [dif_pos (by omega)]; simp only [Result.andThen_ok]) | rw [if_pos (by omega)]); (try with_reducible rfl); done)); try simp only [Act.put, List.setIfInBounds_toArray, List.set_cons_zero, List.set_cons_succ])
      (refine tk4 (v := ?_) (by kernel_rfl) (by kernel_rfl) (by kernel_rfl) (fun _ _ _ h => h) (Or.inl ⟨by rfl, ?_⟩) (by assumption) ?_; rotate_left; (focus (intro w hSw; (try dsimp only at hSw); go_simp; (try first | (rw [dif_pos (by omega)]; simp only [Result.andThen_ok]) | rw [if_pos (by omega)]); (try with_reducible rfl); done)); try simp only [Act.put, List.setIfInBounds_toArray, List.set_cons_zero, List.set_cons_succ])
      (refine tk5 (v := ?_) (by kernel_rfl) (by kernel_rfl) (by kernel_rfl) (fun _ _ _ h => h) (Or.inl ⟨by rfl, ?_⟩) (by assumption) ?_; rotate_left; (focus (intro w hSw; (try dsimp only at hSw); go_simp; (try first | (rw [dif_pos (by omega)]; simp only [Result.andThen_ok]) | rw [if_pos (by omega)]); (try with_reducible rfl); done)); try simp only [Act.put, List.setIfInBounds_toArray, List.set_cons_zero, List.set_cons_succ])
      (refine tk6 (v := ?_) (by kernel_rfl) (by kernel_rfl) (by kernel_rfl) (fun _ _ _ h => h) (Or.inl ⟨by rfl, ?_⟩) (by assumption) ?_; rotate_left; (focus (intro w hSw; (try dsimp only at hSw); go_simp; (try first | (rw [dif_pos (by omega)]; simp only [Result.andThen_ok]) | rw [if_pos (by omega)]); (try with_reducible rfl); done)); try simp only [Act.put, List.setIfInBounds_toArray, List.set_cons_zero, List.set_cons_succ])
      (refine tk7 (v := ?_) (by kernel_rfl) (by kernel_rfl) (by kernel_rfl) (fun _ _ _ h => h) (Or.inl ⟨by rfl, ?_⟩) (by assumption) ?_; rotate_left; (focus (intro w hSw; (try dsimp only at hSw); go_simp; (try first | (rw [dif_pos (by omega)]; simp only [Result.andThen_ok]) | rw [if_pos (by omega)]); (try with_reducible rfl); done)); try simp only [Act.put, List.setIfInBounds_toArray, List.set_cons_zero, List.set_cons_succ])
      (refine tk8 (v := ?_) (by kernel_rfl) (by kernel_rfl) (by kernel_rfl) (fun _ _ _ h => h) (Or.inl ⟨by rfl, ?_⟩) (by assumption) ?_; rotate_left; (focus (intro w hSw; (try dsimp only at hSw); go_simp; (try first | (rw [dif_pos (by omega)]; simp only [Result.andThen_ok]) | rw [if_pos (by omega)]); (try with_reducible rfl); done)); try simp only [Act.put, List.setIfInBounds_toArray, List.set_cons_zero, List.set_cons_succ])
      (refine tk9 (v := ?_) (by kernel_rfl) (by kernel_rfl) (by kernel_rfl) (fun _ _ _ h => h) (Or.inl ⟨by rfl, ?_⟩) (by assumption) ?_; rotate_left; (focus (intro w hSw; (try dsimp only at hSw); go_simp; (try first | (rw [dif_pos (by omega)]; simp only [Result.andThen_ok]) | rw [if_pos (by omega)]); (try with_reducible rfl); done)); try simp only [Act.put, List.setIfInBounds_toArray, List.set_cons_zero, List.set_cons_succ])
      (refine tk10 (v := ?_) (by kernel_rfl) (by kernel_rfl) (by kernel_rfl) (fun _ _ _ h => h) (Or.inl ⟨by rfl, ?_⟩) (by assumption) ?_; rotate_left; (focus (intro w hSw; (try dsimp only at hSw); go_simp; (try first | (rw [dif_pos (by omega)]; simp only [Result.andThen_ok]) | rw [if_pos (by omega)]); (try with_reducible rfl); done)); try simp only [Act.put, List.setIfInBounds_toArray, List.set_cons_zero, List.set_cons_succ])
      (refine tk11 (v := ?_) (by kernel_rfl) (by kernel_rfl) (by kernel_rfl) (fun _ _ _ h => h) (Or.inl ⟨by rfl, ?_⟩) (by assumption) ?_; rotate_left; (focus (intro w hSw; (try dsimp only at hSw); go_simp; (try first | (rw [dif_pos (by omega)]; simp only [Result.andThen_ok]) | rw [if_pos (by omega)]); (try with_reducible rfl); done)); try simp only [Act.put, List.setIfInBounds_toArray, List.set_cons_zero, List.set_cons_succ])
      (refine tk12 (v := ?_) (by kernel_rfl) (by kernel_rfl) (by kernel_rfl) (fun _ _ _ h => h) (Or.inl ⟨by rfl, ?_⟩) (by assumption) ?_; rotate_left; (focus (intro w hSw; (try dsimp only at hSw); go_simp; (try first | (rw [dif_pos (by omega)]; simp only [Result.andThen_ok]) | rw [if_pos (by omega)]); (try with_reducible rfl); done)); try simp only [Act.put, List.setIfInBounds_toArray, List.set_cons_zero, List.set_cons_succ])
      (refine tk13 (v := ?_) (by kernel_rfl) (by kernel_rfl) (by kernel_rfl) (fun _ _ _ h => h) (Or.inl ⟨by rfl, ?_⟩) (by assumption) ?_; rotate_left; (focus (intro w hSw; (try dsimp only at hSw); go_simp; (try first | (rw [dif_pos (by omega)]; simp only [Result.andThen_ok]) | rw [if_pos (by omega)]); (try with_reducible rfl); done)); try simp only [Act.put, List.setIfInBounds_toArray, List.set_cons_zero, List.set_cons_succ])
      (refine tk14 (v := ?_) (by kernel_rfl) (by kernel_rfl) (by kernel_rfl) (fun _ _ _ h => h) (Or.inl ⟨by rfl, ?_⟩) (by assumption) ?_; rotate_left; (focus (intro w hSw; (try dsimp only at hSw); go_simp; (try first | (rw [dif_pos (by omega)]; simp only [Result.andThen_ok]) | rw [if_pos (by omega)]); (try with_reducible rfl); done)); try simp only [Act.put, List.setIfInBounds_toArray, List.set_cons_zero, List.set_cons_succ])
      (refine tk15 (v := ?_) (by kernel_rfl) (by kernel_rfl) (by kernel_rfl) (fun _ _ _ h => h) (Or.inl ⟨by rfl, ?_⟩) (by assumption) ?_; rotate_left; (focus (intro w hSw; (try dsimp only at hSw); go_simp; (try first | (rw [dif_pos (by omega)]; simp only [Result.andThen_ok]) | rw [if_pos (by omega)]); (try with_reducible rfl); done)); try simp only [Act.put, List.setIfInBounds_toArray, List.set_cons_zero, List.set_cons_succ])
      (refine tk17 (v := ?_) (by kernel_rfl) (by kernel_rfl) (by kernel_rfl) (fun _ _ _ h => h) (Or.inl ⟨by rfl, ?_⟩) (by assumption) ?_; rotate_left; (focus (intro w hSw; (try dsimp only at hSw); go_simp; (try first | (rw [dif_pos (by omega)]; simp only [Result.andThen_ok]) | rw [if_pos (by omega)]); (try with_reducible rfl); done)); try simp only [Act.put, List.setIfInBounds_toArray, List.set_cons_zero, List.set_cons_succ])
      (refine tk18 (v := ?_) (by kernel_rfl) (by kernel_rfl) (by kernel_rfl) (fun _ _ _ h => h) (Or.inl ⟨by rfl, ?_⟩) (by assumption) ?_; rotate_left; (focus (intro w hSw; (try dsimp only at hSw); go_simp; (try first | (rw [dif_pos (by omega)]; simp only [Result.andThen_ok]) | rw [if_pos (by omega)]); (try with_reducible rfl); done)); try simp only [Act.put, List.setIfInBounds_toArray, List.set_cons_zero, List.set_cons_succ])
      (refine tk19 (v := ?_) (by kernel_rfl) (by kernel_rfl) (by kernel_rfl) (fun _ _ _ h => h) (Or.inl ⟨by rfl, ?_⟩) (by assumption) ?_; rotate_left; (focus (intro w hSw; (try dsimp only at hSw); go_simp; (try first | (rw [dif_pos (by omega)]; simp only [Result.andThen_ok]) | rw [if_pos (by omega)]); (try with_reducible rfl); done)); try simp only [Act.put, List.setIfInBounds_toArray, List.set_cons_zero, List.set_cons_succ])
      (refine tk20 (v := ?_) (by kernel_rfl) (by kernel_rfl) (by kernel_rfl) (fun _ _ _ h => h) (Or.inl ⟨by rfl, ?_⟩) (by assumption) ?_; rotate_left; (focus (intro w hSw; (try dsimp only at hSw); go_simp; (try first | (rw [dif_pos (by omega)]; simp only [Result.andThen_ok]) | rw [if_pos (by omega)]); (try with_reducible rfl); done)); try simp only [Act.put, List.setIfInBounds_toArray, List.set_cons_zero, List.set_cons_succ])
      (refine wpAnyH_ready (rs := [16, 21]) (by kernel_rfl) (by simp) ?_; refine ar16 (fun K hK => ?_) (ar21 (fun K hK => ?_) AllReadyH.nil) <;> go_simp)
      · (refine hK.out _ _ g3 (fun hHeld => ?_); clear hK K; try simp only [Act.put, List.setIfInBounds_toArray, List.set_cons_zero, List.set_cons_succ])
        (refine wpAnyH_ready (rs := [21]) (by kernel_rfl) (by simp) ?_; refine ar21 (fun K hK => ?_) AllReadyH.nil; go_simp)
        (refine hK.out _ _ g3 (fun hHeld => ?_); clear hK K; try simp only [Act.put, List.setIfInBounds_toArray, List.set_cons_zero, List.set_cons_succ])
        (refine tk22 (v := ?_) (by kernel_rfl) (by kernel_rfl) (by kernel_rfl) (fun _ _ _ h => h) (Or.inl ⟨by rfl, ?_⟩) (by assumption) ?_; rotate_left; (focus (intro w hSw; (try dsimp only at hSw); go_simp; (try first | (rw [dif_pos (by omega)]; simp only [Result.andThen_ok]) | rw [if_pos (by omega)]); (try with_reducible rfl); done)); try simp only [Act.put, List.setIfInBounds_toArray, List.set_cons_zero, List.set_cons_succ])
        (refine wpAnyH_ready (rs := [23]) (by kernel_rfl) (by simp) ?_; refine ar23 (fun K hK => ?_) AllReadyH.nil; go_simp)
        generalize (((wr.setCell ⟨gr, k * 3, none⟩ (.int .u64 y.beg)).setCell ⟨gr, k * 3 + 1, none⟩ (.string y.key)).setCell ⟨gr, k * 3 + 2, none⟩ (.string y.data)).drew = W1 at *
        have hS1 := HS1.out
        have r3 := hS1.c3
        obtain ⟨gr3, ea, _, _, hat3, hfz3⟩ := hS1.od.at j (by rw [List.length_set, HQ.out]; exact hjl)
        obtain rfl : gr = gr3 := by injection ea with ea; injection ea
        obtain ⟨s0, s1, s2⟩ := hat3
        have t0 := hfz3 (j * 3)
        have t1 := hfz3 (j * 3 + 1)
        have t2 := hfz3 (j * 3 + 2)
        generalize (qs.set k y)[j]'(by rw [List.length_set, HQ.out]; exact hjl) = yy at *
        have HS2 : Hid _ := hS1.layT (by rw [List.length_set]; exact HQ.out) j hjl x
        unfold Go.Proofs.YtgopplgknplkiaaGreatDoor.putT at HS2
        clear hS1 hfz3 ea
        (refine hK.out _ _ r3 (fun hHeld => ?_); clear hK K; try simp only [Act.put, List.setIfInBounds_toArray, List.set_cons_zero, List.set_cons_succ])
        (refine tk24 (v := ?_) (by kernel_rfl) (by kernel_rfl) (by kernel_rfl) (fun _ _ _ h => h) (Or.inl ⟨by rfl, ?_⟩) (by assumption) ?_; rotate_left; (focus (intro w hSw; (try dsimp only at hSw); go_simp; (try first | (rw [dif_pos (by omega)]; simp only [Result.andThen_ok]) | rw [if_pos (by omega)]); (try with_reducible rfl); done)); try simp only [Act.put, List.setIfInBounds_toArray, List.set_cons_zero, List.set_cons_succ])
        clear p0 p1 p2 q0 q1 q2 z0 z1 z2 hHeld
        (refine wpAnyH_ready (rs := [25]) (by kernel_rfl) (by simp) ?_; refine ar25 (fun K hK => ?_) AllReadyH.nil; go_simp)
        generalize (((W1.setCell ⟨gr, j * 3, none⟩ (.int .u64 x.beg)).setCell ⟨gr, j * 3 + 1, none⟩ (.string x.key)).setCell ⟨gr, j * 3 + 2, none⟩ (.string x.data)) = W2 at *
        (refine hK.out _ _ HS2.out.c3 (fun hHeld => ?_); clear hK K; try simp only [Act.put, List.setIfInBounds_toArray, List.set_cons_zero, List.set_cons_succ])
        refine wpAnyH_done (by kernel_rfl) ?_ _
        go_wp2
        go_roundw
        case rel => exact ⟨k + 1, (qs.set k y).set j x, by omega, by go_num, by rw [List.length_set, List.length_set]; exact HQ.out, HWs.out, HS2.out⟩
        case measure => simp [intOf]; omega
      · (refine hK.out _ _ g3 (fun hHeld => ?_); clear hK K; try simp only [Act.put, List.setIfInBounds_toArray, List.set_cons_zero, List.set_cons_succ])
        (refine wpAnyH_ready (rs := [16]) (by kernel_rfl) (by simp) ?_; refine ar16 (fun K hK => ?_) AllReadyH.nil; go_simp)
        (refine hK.out _ _ g3 (fun hHeld => ?_); clear hK K; try simp only [Act.put, List.setIfInBounds_toArray, List.set_cons_zero, List.set_cons_succ])
        (refine tk22 (v := ?_) (by kernel_rfl) (by kernel_rfl) (by kernel_rfl) (fun _ _ _ h => h) (Or.inl ⟨by rfl, ?_⟩) (by assumption) ?_; rotate_left; (focus (intro w hSw; (try dsimp only at hSw); go_simp; (try first | (rw [dif_pos (by omega)]; simp only [Result.andThen_ok]) | rw [if_pos (by omega)]); (try with_reducible rfl); done)); try simp only [Act.put, List.setIfInBounds_toArray, List.set_cons_zero, List.set_cons_succ])
        (refine wpAnyH_ready (rs := [23]) (by kernel_rfl) (by simp) ?_; refine ar23 (fun K hK => ?_) AllReadyH.nil; go_simp)
        generalize (((wr.setCell ⟨gr, k * 3, none⟩ (.int .u64 y.beg)).setCell ⟨gr, k * 3 + 1, none⟩ (.string y.key)).setCell ⟨gr, k * 3 + 2, none⟩ (.string y.data)).drew = W1 at *
        have hS1 := HS1.out
        have r3 := hS1.c3
        obtain ⟨gr3, ea, _, _, hat3, hfz3⟩ := hS1.od.at j (by rw [List.length_set, HQ.out]; exact hjl)
        obtain rfl : gr = gr3 := by injection ea with ea; injection ea
        obtain ⟨s0, s1, s2⟩ := hat3
        have t0 := hfz3 (j * 3)
        have t1 := hfz3 (j * 3 + 1)
        have t2 := hfz3 (j * 3 + 2)
        generalize (qs.set k y)[j]'(by rw [List.length_set, HQ.out]; exact hjl) = yy at *
        have HS2 : Hid _ := hS1.layT (by rw [List.length_set]; exact HQ.out) j hjl x
        unfold Go.Proofs.YtgopplgknplkiaaGreatDoor.putT at HS2
        clear hS1 hfz3 ea
        (refine hK.out _ _ r3 (fun hHeld => ?_); clear hK K; try simp only [Act.put, List.setIfInBounds_toArray, List.set_cons_zero, List.set_cons_succ])
        (refine tk24 (v := ?_) (by kernel_rfl) (by kernel_rfl) (by kernel_rfl) (fun _ _ _ h => h) (Or.inl ⟨by rfl, ?_⟩) (by assumption) ?_; rotate_left; (focus (intro w hSw; (try dsimp only at hSw); go_simp; (try first | (rw [dif_pos (by omega)]; simp only [Result.andThen_ok]) | rw [if_pos (by omega)]); (try with_reducible rfl); done)); try simp only [Act.put, List.setIfInBounds_toArray, List.set_cons_zero, List.set_cons_succ])
        clear p0 p1 p2 q0 q1 q2 z0 z1 z2 hHeld
        (refine wpAnyH_ready (rs := [25]) (by kernel_rfl) (by simp) ?_; refine ar25 (fun K hK => ?_) AllReadyH.nil; go_simp)
        generalize (((W1.setCell ⟨gr, j * 3, none⟩ (.int .u64 x.beg)).setCell ⟨gr, j * 3 + 1, none⟩ (.string x.key)).setCell ⟨gr, j * 3 + 2, none⟩ (.string x.data)) = W2 at *
        (refine hK.out _ _ HS2.out.c3 (fun hHeld => ?_); clear hK K; try simp only [Act.put, List.setIfInBounds_toArray, List.set_cons_zero, List.set_cons_succ])
        refine wpAnyH_done (by kernel_rfl) ?_ _
        go_wp2
        go_roundw
        case rel => exact ⟨k + 1, (qs.set k y).set j x, by omega, by go_num, by rw [List.length_set, List.length_set]; exact HQ.out, HWs.out, HS2.out⟩
        case measure => simp [intOf]; omega
    · have g5 : wr.cell? ⟨w.heap.size, 5, none⟩ = some (.slice ao es.length cap) := HSk.out.c5
      go_wp2_with fail
      have HDl : Hid (ds.length ≤ 9000000000000) := hdl
      clear g3 g5 hdv hk h1 hdl
      go_loopw [4] (fun i wq => ∃ (k : Nat) (rs : List ER), k ≤ es.length / 2 ∧ i = .int .i64 k ∧ rs.length = es.length ∧ (∀ p ∈ rs, p.wf) ∧ BwS w B id lo hi gen (.slice da ds.length dc) (.slice ao es.length cap) wq qs rs) (fun i _ => es.length - (intOf i).toNat)
      case atStart => exact ⟨0, es, by omega, rfl, rfl, HW.out, HSk.out⟩
      case round =>
        rename World => wq
        have HQd : Hid (qs.length = ds.length) := HQ.out
        have HDq : Hid (∀ d ∈ qs, d.data.size ≤ 140737488355328) := HQW.out
        clear HQ HSk HQW
        obtain ⟨k, rs, hk, rfl, hq, hqw, hS⟩ := hrel
        have HSk : Hid (BwS w B id lo hi gen (.slice da ds.length dc) (.slice ao es.length cap) wq qs rs) := hS
        have HQ : Hid (rs.length = es.length) := hq
        have HQW : Hid (∀ p ∈ rs, p.wf) := hqw
        clear hS hq hqw
        have g3 : wq.cell? ⟨w.heap.size, 5, none⟩ = some (.slice ao es.length cap) := HSk.out.c5
        have hdv : (es.length : Int).tdiv 2 = ((es.length / 2 : Nat) : Int) := by rw [Int.tdiv_eq_ediv_of_nonneg (by omega)]; omega
        by_cases h1 : k < es.length / 2
        · obtain ⟨j, hj⟩ : ∃ j : Nat, j + 1 + k = es.length := ⟨es.length - 1 - k, by omega⟩
          have hjl : j < es.length := by omega
          have hkl : k < es.length := by omega
          have hkj : k < j := by omega
          have hw1 : IntKind.i64.wrap ((es.length : Int) - 1) = (es.length : Int) - 1 := by rw [IntKind.wrap_i64]; omega
          have hw2 : IntKind.i64.wrap ((es.length : Int) - 1 - (k : Int)) = (j : Int) := by rw [IntKind.wrap_i64]; omega
          obtain ⟨gr, e, hge, hgr, hat, hfz⟩ := HSk.out.oe.at k (by rw [HQ.out]; exact hkl)
          obtain ⟨p0, p1, p2⟩ := hat
          subst e
          obtain ⟨gr', e', _, _, hat2, _⟩ := HSk.out.oe.at j (by rw [HQ.out]; exact hjl)
          obtain rfl : gr = gr' := by injection e' with e'; injection e'
          obtain ⟨q0, q1, q2⟩ := hat2
          have HX : Hid (rs[k]'(by rw [HQ.out]; exact hkl)).wf := HQW.out _ (List.getElem_mem _)
          have HYy : Hid (rs[j]'(by rw [HQ.out]; exact hjl)).wf := HQW.out _ (List.getElem_mem _)
          generalize rs[k]'(by rw [HQ.out]; exact hkl) = x at *
          generalize rs[j]'(by rw [HQ.out]; exact hjl) = y at *
          clear e'
          have hjj : (j : Int) < (es.length : Int) := by omega
          have hkk : (k : Int) < (es.length : Int) := by omega
          have z0 := hfz (k * 3)
          have z1 := hfz (k * 3 + 1)
          have z2 := hfz (k * 3 + 2)
          have HS1 : Hid _ := (HSk.out.layE HQ.out k hkl y).drew
          unfold Go.Proofs.YtgopplgknplkiaaGreatDoor.putE at HS1
          have HWs : Hid (∀ p ∈ (rs.set k y).set j x, p.wf) := fun p hp => by
            rcases List.mem_or_eq_of_mem_set hp with h | h
            · rcases List.mem_or_eq_of_mem_set h with h | h
              · exact HQW.out p h
              · rw [h]; exact HYy.out
            · rw [h]; exact HX.out
          clear HX HYy
          clear hfz
          go_wp2_with fail
          (refine wp_region_held_drew (S := (fun W => W.cell? ⟨w.heap.size, 5, none⟩ = some (.slice (some ⟨gr, 0, none⟩) es.length cap))) (by kernel_rfl) g3 (fun hHeld => ?_); simp only [List.size_toArray, List.length_cons, List.length_nil, Nat.reduceAdd, Array.replicate_succ, Array.replicate_zero, List.push_toArray, List.append_toArray, List.nil_append, List.cons_append])
          (refine tk0 (v := ?_) (by kernel_rfl) (by kernel_rfl) (by kernel_rfl) (fun _ _ _ h => h) (Or.inl ⟨by rfl, ?_⟩) (by assumption) ?_; rotate_left; (focus (intro w hSw; (try dsimp only at hSw); go_simp; (try first | (rw [dif_pos (by omega)]; simp only [Result.andThen_ok]) | rw [if_pos (by omega)]); (try with_reducible rfl); done)); try simp only [Act.put, List.setIfInBounds_toArray, List.set_cons_zero, List.set_cons_succ])
          (refine tk1 (v := ?_) (by kernel_rfl) (by kernel_rfl) (by kernel_rfl) (fun _ _ _ h => h) (Or.inl ⟨by rfl, ?_⟩) (by assumption) ?_; rotate_left; (focus (intro w hSw; (try dsimp only at hSw); go_simp; (try first | (rw [dif_pos (by omega)]; simp only [Result.andThen_ok]) | rw [if_pos (by omega)]); (try with_reducible rfl); done)); try simp only [Act.put, List.setIfInBounds_toArray, List.set_cons_zero, List.set_cons_succ])
          (refine tk2 (v := ?_) (by kernel_rfl) (by kernel_rfl) (by kernel_rfl) (fun _ _ _ h => h) (Or.inl ⟨by rfl, ?_⟩) (by assumption) ?_; rotate_left; (focus (intro w hSw; (try dsimp only at hSw); go_simp; (try first | (rw [dif_pos (by omega)]; simp only [Result.andThen_ok]) | rw [if_pos (by omega)]); (try with_reducible rfl); done)); try simp only [Act.put, List.setIfInBounds_toArray, List.set_cons_zero, List.set_cons_succ])
          (refine tk3 (v := ?_) (by kernel_rfl) (by kernel_rfl) (by kernel_rfl) (fun _ _ _ h => h) (Or.inl ⟨by rfl, ?_⟩) (by assumption) ?_; rotate_left; (focus (intro w hSw; (try dsimp only at hSw); go_simp; (try first | (rw [dif_pos (by omega)]; simp only [Result.andThen_ok]) | rw [if_pos (by omega)]); (try with_reducible rfl); done)); try simp only [Act.put, List.setIfInBounds_toArray, List.set_cons_zero, List.set_cons_succ])
          (refine tk4 (v := ?_) (by kernel_rfl) (by kernel_rfl) (by kernel_rfl) (fun _ _ _ h => h) (Or.inl ⟨by rfl, ?_⟩) (by assumption) ?_; rotate_left; (focus (intro w hSw; (try dsimp only at hSw); go_simp; (try first | (rw [dif_pos (by omega)]; simp only [Result.andThen_ok]) | rw [if_pos (by omega)]); (try with_reducible rfl); done)); try simp only [Act.put, List.setIfInBounds_toArray, List.set_cons_zero, List.set_cons_succ])
          (refine tk5 (v := ?_) (by kernel_rfl) (by kernel_rfl) (by kernel_rfl) (fun _ _ _ h => h) (Or.inl ⟨by rfl, ?_⟩) (by assumption) ?_; rotate_left; (focus (intro w hSw; (try dsimp only at hSw); go_simp; (try first | (rw [dif_pos (by omega)]; simp only [Result.andThen_ok]) | rw [if_pos (by omega)]); (try with_reducible rfl); done)); try simp only [Act.put, List.setIfInBounds_toArray, List.set_cons_zero, List.set_cons_succ])
          (refine tk6 (v := ?_) (by kernel_rfl) (by kernel_rfl) (by kernel_rfl) (fun _ _ _ h => h) (Or.inl ⟨by rfl, ?_⟩) (by assumption) ?_; rotate_left; (focus (intro w hSw; (try dsimp only at hSw); go_simp; (try first | (rw [dif_pos (by omega)]; simp only [Result.andThen_ok]) | rw [if_pos (by omega)]); (try with_reducible rfl); done)); try simp only [Act.put, List.setIfInBounds_toArray, List.set_cons_zero, List.set_cons_succ])
          (refine tk7 (v := ?_) (by kernel_rfl) (by kernel_rfl) (by kernel_rfl) (fun _ _ _ h => h) (Or.inl ⟨by rfl, ?_⟩) (by assumption) ?_; rotate_left; (focus (intro w hSw; (try dsimp only at hSw); go_simp; (try first | (rw [dif_pos (by omega)]; simp only [Result.andThen_ok]) | rw [if_pos (by omega)]); (try with_reducible rfl); done)); try simp only [Act.put, List.setIfInBounds_toArray, List.set_cons_zero, List.set_cons_succ])
          (refine tk8 (v := ?_) (by kernel_rfl) (by kernel_rfl) (by kernel_rfl) (fun _ _ _ h => h) (Or.inl ⟨by rfl, ?_⟩) (by assumption) ?_; rotate_left; (focus (intro w hSw; (try dsimp only at hSw); go_simp; (try first | (rw [dif_pos (by omega)]; simp only [Result.andThen_ok]) | rw [if_pos (by omega)]); (try with_reducible rfl); done)); try simp only [Act.put, List.setIfInBounds_toArray, List.set_cons_zero, List.set_cons_succ])
          (refine tk9 (v := ?_) (by kernel_rfl) (by kernel_rfl) (by kernel_rfl) (fun _ _ _ h => h) (Or.inl ⟨by rfl, ?_⟩) (by assumption) ?_; rotate_left; (focus (intro w hSw; (try dsimp only at hSw); go_simp; (try first | (rw [dif_pos (by omega)]; simp only [Result.andThen_ok]) | rw [if_pos (by omega)]); (try with_reducible rfl); done)); try simp only [Act.put, List.setIfInBounds_toArray, List.set_cons_zero, List.set_cons_succ])
          (refine tk10 (v := ?_) (by kernel_rfl) (by kernel_rfl) (by kernel_rfl) (fun _ _ _ h => h) (Or.inl ⟨by rfl, ?_⟩) (by assumption) ?_; rotate_left; (focus (intro w hSw; (try dsimp only at hSw); go_simp; (try first | (rw [dif_pos (by omega)]; simp only [Result.andThen_ok]) | rw [if_pos (by omega)]); (try with_reducible rfl); done)); try simp only [Act.put, List.setIfInBounds_toArray, List.set_cons_zero, List.set_cons_succ])
          (refine tk11 (v := ?_) (by kernel_rfl) (by kernel_rfl) (by kernel_rfl) (fun _ _ _ h => h) (Or.inl ⟨by rfl, ?_⟩) (by assumption) ?_; rotate_left; (focus (intro w hSw; (try dsimp only at hSw); go_simp; (try first | (rw [dif_pos (by omega)]; simp only [Result.andThen_ok]) | rw [if_pos (by omega)]); (try with_reducible rfl); done)); try simp only [Act.put, List.setIfInBounds_toArray, List.set_cons_zero, List.set_cons_succ])
          (refine tk12 (v := ?_) (by kernel_rfl) (by kernel_rfl) (by kernel_rfl) (fun _ _ _ h => h) (Or.inl ⟨by rfl, ?_⟩) (by assumption) ?_; rotate_left; (focus (intro w hSw; (try dsimp only at hSw); go_simp; (try first | (rw [dif_pos (by omega)]; simp only [Result.andThen_ok]) | rw [if_pos (by omega)]); (try with_reducible rfl); done)); try simp only [Act.put, List.setIfInBounds_toArray, List.set_cons_zero, List.set_cons_succ])
          (refine tk13 (v := ?_) (by kernel_rfl) (by kernel_rfl) (by kernel_rfl) (fun _ _ _ h => h) (Or.inl ⟨by rfl, ?_⟩) (by assumption) ?_; rotate_left; (focus (intro w hSw; (try dsimp only at hSw); go_simp; (try first | (rw [dif_pos (by omega)]; simp only [Result.andThen_ok]) | rw [if_pos (by omega)]); (try with_reducible rfl); done)); try simp only [Act.put, List.setIfInBounds_toArray, List.set_cons_zero, List.set_cons_succ])
          (refine tk14 (v := ?_) (by kernel_rfl) (by kernel_rfl) (by kernel_rfl) (fun _ _ _ h => h) (Or.inl ⟨by rfl, ?_⟩) (by assumption) ?_; rotate_left; (focus (intro w hSw; (try dsimp only at hSw); go_simp; (try first | (rw [dif_pos (by omega)]; simp only [Result.andThen_ok]) | rw [if_pos (by omega)]); (try with_reducible rfl); done)); try simp only [Act.put, List.setIfInBounds_toArray, List.set_cons_zero, List.set_cons_succ])
          (refine tk15 (v := ?_) (by kernel_rfl) (by kernel_rfl) (by kernel_rfl) (fun _ _ _ h => h) (Or.inl ⟨by rfl, ?_⟩) (by assumption) ?_; rotate_left; (focus (intro w hSw; (try dsimp only at hSw); go_simp; (try first | (rw [dif_pos (by omega)]; simp only [Result.andThen_ok]) | rw [if_pos (by omega)]); (try with_reducible rfl); done)); try simp only [Act.put, List.setIfInBounds_toArray, List.set_cons_zero, List.set_cons_succ])
          (refine tk17 (v := ?_) (by kernel_rfl) (by kernel_rfl) (by kernel_rfl) (fun _ _ _ h => h) (Or.inl ⟨by rfl, ?_⟩) (by assumption) ?_; rotate_left; (focus (intro w hSw; (try dsimp only at hSw); go_simp; (try first | (rw [dif_pos (by omega)]; simp only [Result.andThen_ok]) | rw [if_pos (by omega)]); (try with_reducible rfl); done)); try simp only [Act.put, List.setIfInBounds_toArray, List.set_cons_zero, List.set_cons_succ])
          (refine tk18 (v := ?_) (by kernel_rfl) (by kernel_rfl) (by kernel_rfl) (fun _ _ _ h => h) (Or.inl ⟨by rfl, ?_⟩) (by assumption) ?_; rotate_left; (focus (intro w hSw; (try dsimp only at hSw); go_simp; (try first | (rw [dif_pos (by omega)]; simp only [Result.andThen_ok]) | rw [if_pos (by omega)]); (try with_reducible rfl); done)); try simp only [Act.put, List.setIfInBounds_toArray, List.set_cons_zero, List.set_cons_succ])
          (refine tk19 (v := ?_) (by kernel_rfl) (by kernel_rfl) (by kernel_rfl) (fun _ _ _ h => h) (Or.inl ⟨by rfl, ?_⟩) (by assumption) ?_; rotate_left; (focus (intro w hSw; (try dsimp only at hSw); go_simp; (try first | (rw [dif_pos (by omega)]; simp only [Result.andThen_ok]) | rw [if_pos (by omega)]); (try with_reducible rfl); done)); try simp only [Act.put, List.setIfInBounds_toArray, List.set_cons_zero, List.set_cons_succ])
          (refine tk20 (v := ?_) (by kernel_rfl) (by kernel_rfl) (by kernel_rfl) (fun _ _ _ h => h) (Or.inl ⟨by rfl, ?_⟩) (by assumption) ?_; rotate_left; (focus (intro w hSw; (try dsimp only at hSw); go_simp; (try first | (rw [dif_pos (by omega)]; simp only [Result.andThen_ok]) | rw [if_pos (by omega)]); (try with_reducible rfl); done)); try simp only [Act.put, List.setIfInBounds_toArray, List.set_cons_zero, List.set_cons_succ])
          (refine wpAnyH_ready (rs := [16, 21]) (by kernel_rfl) (by simp) ?_; refine ar16 (fun K hK => ?_) (ar21 (fun K hK => ?_) AllReadyH.nil) <;> go_simp)
          · (refine hK.out _ _ g3 (fun hHeld => ?_); clear hK K; try simp only [Act.put, List.setIfInBounds_toArray, List.set_cons_zero, List.set_cons_succ])
            (refine wpAnyH_ready (rs := [21]) (by kernel_rfl) (by simp) ?_; refine ar21 (fun K hK => ?_) AllReadyH.nil; go_simp)
            (refine hK.out _ _ g3 (fun hHeld => ?_); clear hK K; try simp only [Act.put, List.setIfInBounds_toArray, List.set_cons_zero, List.set_cons_succ])
            (refine tk22 (v := ?_) (by kernel_rfl) (by kernel_rfl) (by kernel_rfl) (fun _ _ _ h => h) (Or.inl ⟨by rfl, ?_⟩) (by assumption) ?_; rotate_left; (focus (intro w hSw; (try dsimp only at hSw); go_simp; (try first | (rw [dif_pos (by omega)]; simp only [Result.andThen_ok]) | rw [if_pos (by omega)]); (try with_reducible rfl); done)); try simp only [Act.put, List.setIfInBounds_toArray, List.set_cons_zero, List.set_cons_succ])
            (refine wpAnyH_ready (rs := [23]) (by kernel_rfl) (by simp) ?_; refine ar23 (fun K hK => ?_) AllReadyH.nil; go_simp)
            generalize (((wq.setCell ⟨gr, k * 3, none⟩ (.int .u64 y.beg)).setCell ⟨gr, k * 3 + 1, none⟩ (.int .u64 y.fin)).setCell ⟨gr, k * 3 + 2, none⟩ (.string y.key)).drew = W1 at *
            have hS1 := HS1.out
            have r3 := hS1.c5
            obtain ⟨gr3, ea, _, _, hat3, hfz3⟩ := hS1.oe.at j (by rw [List.length_set, HQ.out]; exact hjl)
            obtain rfl : gr = gr3 := by injection ea with ea; injection ea
            obtain ⟨s0, s1, s2⟩ := hat3
            have t0 := hfz3 (j * 3)
            have t1 := hfz3 (j * 3 + 1)
            have t2 := hfz3 (j * 3 + 2)
            generalize (rs.set k y)[j]'(by rw [List.length_set, HQ.out]; exact hjl) = yy at *
            have HS2 : Hid _ := hS1.layE (by rw [List.length_set]; exact HQ.out) j hjl x
            unfold Go.Proofs.YtgopplgknplkiaaGreatDoor.putE at HS2
            clear hS1 hfz3 ea
            (refine hK.out _ _ r3 (fun hHeld => ?_); clear hK K; try simp only [Act.put, List.setIfInBounds_toArray, List.set_cons_zero, List.set_cons_succ])
            (refine tk24 (v := ?_) (by kernel_rfl) (by kernel_rfl) (by kernel_rfl) (fun _ _ _ h => h) (Or.inl ⟨by rfl, ?_⟩) (by assumption) ?_; rotate_left; (focus (intro w hSw; (try dsimp only at hSw); go_simp; (try first | (rw [dif_pos (by omega)]; simp only [Result.andThen_ok]) | rw [if_pos (by omega)]); (try with_reducible rfl); done)); try simp only [Act.put, List.setIfInBounds_toArray, List.set_cons_zero, List.set_cons_succ])
            clear p0 p1 p2 q0 q1 q2 z0 z1 z2 hHeld
            (refine wpAnyH_ready (rs := [25]) (by kernel_rfl) (by simp) ?_; refine ar25 (fun K hK => ?_) AllReadyH.nil; go_simp)
            generalize (((W1.setCell ⟨gr, j * 3, none⟩ (.int .u64 x.beg)).setCell ⟨gr, j * 3 + 1, none⟩ (.int .u64 x.fin)).setCell ⟨gr, j * 3 + 2, none⟩ (.string x.key)) = W2 at *
            (refine hK.out _ _ HS2.out.c5 (fun hHeld => ?_); clear hK K; try simp only [Act.put, List.setIfInBounds_toArray, List.set_cons_zero, List.set_cons_succ])
            refine wpAnyH_done (by kernel_rfl) ?_ _
            go_wp2
            go_roundw
            case rel => exact ⟨k + 1, (rs.set k y).set j x, by omega, by go_num, by rw [List.length_set, List.length_set]; exact HQ.out, HWs.out, HS2.out⟩
            case measure => simp [intOf]; omega
          · (refine hK.out _ _ g3 (fun hHeld => ?_); clear hK K; try simp only [Act.put, List.setIfInBounds_toArray, List.set_cons_zero, List.set_cons_succ])
            (refine wpAnyH_ready (rs := [16]) (by kernel_rfl) (by simp) ?_; refine ar16 (fun K hK => ?_) AllReadyH.nil; go_simp)
            (refine hK.out _ _ g3 (fun hHeld => ?_); clear hK K; try simp only [Act.put, List.setIfInBounds_toArray, List.set_cons_zero, List.set_cons_succ])
            (refine tk22 (v := ?_) (by kernel_rfl) (by kernel_rfl) (by kernel_rfl) (fun _ _ _ h => h) (Or.inl ⟨by rfl, ?_⟩) (by assumption) ?_; rotate_left; (focus (intro w hSw; (try dsimp only at hSw); go_simp; (try first | (rw [dif_pos (by omega)]; simp only [Result.andThen_ok]) | rw [if_pos (by omega)]); (try with_reducible rfl); done)); try simp only [Act.put, List.setIfInBounds_toArray, List.set_cons_zero, List.set_cons_succ])
            (refine wpAnyH_ready (rs := [23]) (by kernel_rfl) (by simp) ?_; refine ar23 (fun K hK => ?_) AllReadyH.nil; go_simp)
            generalize (((wq.setCell ⟨gr, k * 3, none⟩ (.int .u64 y.beg)).setCell ⟨gr, k * 3 + 1, none⟩ (.int .u64 y.fin)).setCell ⟨gr, k * 3 + 2, none⟩ (.string y.key)).drew = W1 at *
            have hS1 := HS1.out
            have r3 := hS1.c5
            obtain ⟨gr3, ea, _, _, hat3, hfz3⟩ := hS1.oe.at j (by rw [List.length_set, HQ.out]; exact hjl)
            obtain rfl : gr = gr3 := by injection ea with ea; injection ea
            obtain ⟨s0, s1, s2⟩ := hat3
            have t0 := hfz3 (j * 3)
            have t1 := hfz3 (j * 3 + 1)
            have t2 := hfz3 (j * 3 + 2)
            generalize (rs.set k y)[j]'(by rw [List.length_set, HQ.out]; exact hjl) = yy at *
            have HS2 : Hid _ := hS1.layE (by rw [List.length_set]; exact HQ.out) j hjl x
            unfold Go.Proofs.YtgopplgknplkiaaGreatDoor.putE at HS2
            clear hS1 hfz3 ea
            (refine hK.out _ _ r3 (fun hHeld => ?_); clear hK K; try simp only [Act.put, List.setIfInBounds_toArray, List.set_cons_zero, List.set_cons_succ])
            (refine tk24 (v := ?_) (by kernel_rfl) (by kernel_rfl) (by kernel_rfl) (fun _ _ _ h => h) (Or.inl ⟨by rfl, ?_⟩) (by assumption) ?_; rotate_left; (focus (intro w hSw; (try dsimp only at hSw); go_simp; (try first | (rw [dif_pos (by omega)]; simp only [Result.andThen_ok]) | rw [if_pos (by omega)]); (try with_reducible rfl); done)); try simp only [Act.put, List.setIfInBounds_toArray, List.set_cons_zero, List.set_cons_succ])
            clear p0 p1 p2 q0 q1 q2 z0 z1 z2 hHeld
            (refine wpAnyH_ready (rs := [25]) (by kernel_rfl) (by simp) ?_; refine ar25 (fun K hK => ?_) AllReadyH.nil; go_simp)
            generalize (((W1.setCell ⟨gr, j * 3, none⟩ (.int .u64 x.beg)).setCell ⟨gr, j * 3 + 1, none⟩ (.int .u64 x.fin)).setCell ⟨gr, j * 3 + 2, none⟩ (.string x.key)) = W2 at *
            (refine hK.out _ _ HS2.out.c5 (fun hHeld => ?_); clear hK K; try simp only [Act.put, List.setIfInBounds_toArray, List.set_cons_zero, List.set_cons_succ])
            refine wpAnyH_done (by kernel_rfl) ?_ _
            go_wp2
            go_roundw
            case rel => exact ⟨k + 1, (rs.set k y).set j x, by omega, by go_num, by rw [List.length_set, List.length_set]; exact HQ.out, HWs.out, HS2.out⟩
            case measure => simp [intOf]; omega
        · have g5 : wq.cell? ⟨w.heap.size, 3, none⟩ = some (.slice da ds.length dc) := HSk.out.c3
          by_cases h0 : ds.length = 1
          · obtain ⟨gr, e, hge, hgr, hat, hfz⟩ := HSk.out.od.at 0 (by rw [HQd.out]; omega)
            obtain ⟨m, rfl⟩ : ∃ m, qs = [m] := List.length_eq_one_iff.1 (by rw [HQd.out]; exact h0)
            obtain ⟨p0, p1, p2⟩ := hat
            subst e
            rw [h0] at *
            have p2' : wq.cell? ⟨gr, 2, none⟩ = some (.string m.data) := by simpa using p2
            have z2 := hfz 2
            have hcc : ¬ 9223372036854775807 < m.data.size + 1 := by have := HDq.out m (by simp); omega
            have HSt : Hid _ := HSk.out.turn (m.data ++ ⟨#[120]⟩)
            clear hfz p0 p1 p2
            go_wp2
            (refine wp_region_held_drew (S := (fun W => W.cell? ⟨w.heap.size, 3, none⟩ = some (.slice (some ⟨gr, 0, none⟩) 1 dc))) (by kernel_rfl) g5 (fun hHeld => ?_); simp only [List.size_toArray, List.length_cons, List.length_nil, Nat.reduceAdd, Array.replicate_succ, Array.replicate_zero, List.push_toArray, List.append_toArray, List.nil_append, List.cons_append])
            (refine tk0 (v := ?_) (by kernel_rfl) (by kernel_rfl) (by kernel_rfl) (fun _ _ _ h => h) (Or.inl ⟨by rfl, ?_⟩) (by assumption) ?_; rotate_left; (focus (intro w hSw; (try dsimp only at hSw); go_simp; (try first | (rw [dif_pos (by omega)]; simp only [Result.andThen_ok]) | rw [if_pos (by omega)]); (try with_reducible rfl); done)); try simp only [Act.put, List.setIfInBounds_toArray, List.set_cons_zero, List.set_cons_succ])
            (refine tk1 (v := ?_) (by kernel_rfl) (by kernel_rfl) (by kernel_rfl) (fun _ _ _ h => h) (Or.inl ⟨by rfl, ?_⟩) (by assumption) ?_; rotate_left; (focus (intro w hSw; (try dsimp only at hSw); go_simp; (try first | (rw [dif_pos (by omega)]; simp only [Result.andThen_ok]) | rw [if_pos (by omega)]); (try with_reducible rfl); done)); try simp only [Act.put, List.setIfInBounds_toArray, List.set_cons_zero, List.set_cons_succ])
            (refine tk2 (v := ?_) (by kernel_rfl) (by kernel_rfl) (by kernel_rfl) (fun _ _ _ h => h) (Or.inl ⟨by rfl, ?_⟩) (by assumption) ?_; rotate_left; (focus (intro w hSw; (try dsimp only at hSw); go_simp; (try first | (rw [dif_pos (by omega)]; simp only [Result.andThen_ok]) | rw [if_pos (by omega)]); (try with_reducible rfl); done)); try simp only [Act.put, List.setIfInBounds_toArray, List.set_cons_zero, List.set_cons_succ])
            (refine tk3 (v := ?_) (by kernel_rfl) (by kernel_rfl) (by kernel_rfl) (fun _ _ _ h => h) (Or.inl ⟨by rfl, ?_⟩) (by assumption) ?_; rotate_left; (focus (intro w hSw; (try dsimp only at hSw); go_simp; (try first | (rw [dif_pos (by omega)]; simp only [Result.andThen_ok]) | rw [if_pos (by omega)]); (try with_reducible rfl); done)); try simp only [Act.put, List.setIfInBounds_toArray, List.set_cons_zero, List.set_cons_succ])
            (refine tk4 (v := ?_) (by kernel_rfl) (by kernel_rfl) (by kernel_rfl) (fun _ _ _ h => h) (Or.inl ⟨by rfl, ?_⟩) (by assumption) ?_; rotate_left; (focus (intro w hSw; (try dsimp only at hSw); go_simp; (try first | (rw [dif_pos (by omega)]; simp only [Result.andThen_ok]) | rw [if_pos (by omega)]); (try with_reducible rfl); done)); try simp only [Act.put, List.setIfInBounds_toArray, List.set_cons_zero, List.set_cons_succ])
            (refine tk5 (v := ?_) (by kernel_rfl) (by kernel_rfl) (by kernel_rfl) (fun _ _ _ h => h) (Or.inl ⟨by rfl, ?_⟩) (by assumption) ?_; rotate_left; (focus (intro w hSw; (try dsimp only at hSw); go_simp; (try first | (rw [dif_pos (by omega)]; simp only [Result.andThen_ok]) | rw [if_pos (by omega)]); (try with_reducible rfl); done)); try simp only [Act.put, List.setIfInBounds_toArray, List.set_cons_zero, List.set_cons_succ])
            (refine wpAnyH_ready (rs := [6]) (by kernel_rfl) (by simp) ?_; refine ar6 (fun K hK => ?_) AllReadyH.nil; go_simp)
            (refine hK.out _ _ g5 (fun hHeld => ?_); clear hK K; try simp only [Act.put, List.setIfInBounds_toArray, List.set_cons_zero, List.set_cons_succ])
            (refine tk7 (v := ?_) (by kernel_rfl) (by kernel_rfl) (by kernel_rfl) (fun _ _ _ h => h) (Or.inl ⟨by rfl, ?_⟩) (by assumption) ?_; rotate_left; (focus (intro w hSw; (try dsimp only at hSw); go_simp; (try first | (rw [dif_pos (by omega)]; simp only [Result.andThen_ok]) | rw [if_pos (by omega)]); (try with_reducible rfl); done)); try simp only [Act.put, List.setIfInBounds_toArray, List.set_cons_zero, List.set_cons_succ])
            (refine tk8 (v := ?_) (by kernel_rfl) (by kernel_rfl) (by kernel_rfl) (fun _ _ _ h => h) (Or.inl ⟨by rfl, ?_⟩) (by assumption) ?_; rotate_left; (focus (intro w hSw; (try dsimp only at hSw); go_simp; (try first | (rw [dif_pos (by omega)]; simp only [Result.andThen_ok]) | rw [if_pos (by omega)]); (try with_reducible rfl); done)); try simp only [Act.put, List.setIfInBounds_toArray, List.set_cons_zero, List.set_cons_succ])
            (refine tk9 (v := ?_) (by kernel_rfl) (by kernel_rfl) (by kernel_rfl) (fun _ _ _ h => h) (Or.inl ⟨by rfl, ?_⟩) (by assumption) ?_; rotate_left; (focus (intro w hSw; (try dsimp only at hSw); go_simp; (try first | (rw [dif_pos (by omega)]; simp only [Result.andThen_ok]) | rw [if_pos (by omega)]); (try with_reducible rfl); done)); try simp only [Act.put, List.setIfInBounds_toArray, List.set_cons_zero, List.set_cons_succ])
            (refine wpAnyH_ready (rs := [10]) (by kernel_rfl) (by simp) ?_; refine ar10 (fun K hK => ?_) AllReadyH.nil; go_simp)
            (refine hK.out _ _ HSt.out.drew.c3 (fun hHeld => ?_); clear hK K; try simp only [Act.put, List.setIfInBounds_toArray, List.set_cons_zero, List.set_cons_succ])
            refine wpAnyH_done (by kernel_rfl) ?_ _
            go_end0
            exact HSt.out.drew.post rfl HQ.out HQW.out
          · go_wp2
            go_end0
            exact HSk.out.post HQd.out HQ.out HQW.out
end Go.Proofs.YtgopplgknplkiaaGreatDoor

namespace Go.Proofs.YtgopplgknplkiaaGreatDoor
open Go.ChangeShapes Go.WideShapes Go.ChangeAt Go.RowKit Go.Maps
set_option linter.unusedVariables false
set_option maxRecDepth 100000
theorem app_erL {wr : World} {ops : Array Oper} {rest : List Oper} {o : Oper} {a : Act} {Q : Exit → Act → World → Prop} (hgd : o.guard = none) (s x : Operand)
    (ho : o.op = .call { callee := .builtin .append, args := #[s, x], argTypes := #[24, 24] })
    (B : Nat) (v : Value) (vs : List ER) (c : ER) (hown : ownE wr B v vs) (hs : a.eval s = v) (g : Nat) (hg : g = wr.heap.size) (hx : a.eval x = .slice (some ⟨g, 0, none⟩) 1 1)
    (hlen : (vs.length + 1) * 32 ≤ 140737488355328) (hB : B ≤ wr.heap.size)
    (h : ∀ v' w', ownE w' B v' (vs ++ [c]) → Below B wr w' → wr.heap.size + 1 ≤ w'.heap.size → (∀ k, k < wr.heap.size → v.ownBlock ≠ some k → w'.heap[k]? = wr.heap[k]?) → (v'.ownBlock = v.ownBlock ∨ v'.ownBlock = some (wr.heap.size + 1)) → wpList Tryz.prog ops Q rest (a.put o.dst v') w') :
    wpList Tryz.prog ops Q (o :: rest) a (wr.alloc (.cells #[.int .u64 c.beg, .int .u64 c.fin, .string c.key] 46)) := by
  subst hg
  obtain ⟨i0, hi, hz0, hz1, hz2⟩ := info_parts infoE
  refine wpList_plain hgd fun K hK => ?_
  obtain ⟨v', w', hr, hrow, hgrow, _, hloc⟩ := run_append_own_at (P := Tryz.prog) (w := wr.alloc (.cells #[.int .u64 c.beg, .int .u64 c.fin, .string c.key] 46)) B 24 o.type 46 i0 _ 3 32 Tryz.underlying24 hi hz0 hz1 hz2 rfl (by decide) v vs.length _ (World.ownsRow.alloc hown _) ⟨wr.heap.size, 0, none⟩ 1 1 (cellE c) rfl (fun j u hj => by
      match j, hj with
      | 0, hj => simp [cellE] at hj; subst hj; simp [Addr.add]
      | 1, hj => simp [cellE] at hj; subst hj; simp [Addr.add]
      | 2, hj => simp [cellE] at hj; subst hj; simp [Addr.add]) (fun u hu => cellsE_one [c] u (by simpa [cellsE] using hu)) (by unfold maxLen; omega) (by omega) (by simp; omega)
  unfold Oper.wp execOp
  simp only [ho, resolve, invoke, builtin, Sem.run_bind, Sem.run_pure, Result.andThen_ok, List.map_toArray, List.map_cons, List.map_nil, hs, hx, hr]
  refine hK _ _ (h v' w' ?_ (((Below.refl _ _).alloc hB _).grown hgrow (by simp; omega) (fun k hk => (World.ownsRow.lt hown k hk).1)) ?_ ?_ ?_)
  · have : (vs ++ [c]).length = vs.length + 1 := by simp
    unfold ownE; rw [this, cellsE_app, show cellsE [c] = cellE c from by simp [cellsE]]; exact hrow
  · have := hgrow.size
    simpa using this
  · intro k hk hne
    exact (hgrow.block k (by simp; omega) (fun e => hne e.symm)).trans (Below.heap_alloc _ _ k hk)
  · simpa using hloc
theorem app_dtL {wr : World} {ops : Array Oper} {rest : List Oper} {o : Oper} {a : Act} {Q : Exit → Act → World → Prop} (hgd : o.guard = none) (s x : Operand)
    (ho : o.op = .call { callee := .builtin .append, args := #[s, x], argTypes := #[23, 23] })
    (B : Nat) (v : Value) (vs : List DT) (c : DT) (hown : ownT wr B v vs) (hs : a.eval s = v) (g : Nat) (hg : g = wr.heap.size) (hx : a.eval x = .slice (some ⟨g, 0, none⟩) 1 1)
    (hlen : (vs.length + 1) * 40 ≤ 140737488355328) (hB : B ≤ wr.heap.size)
    (h : ∀ v' w', ownT w' B v' (vs ++ [c]) → Below B wr w' → wr.heap.size + 1 ≤ w'.heap.size → (∀ k, k < wr.heap.size → v.ownBlock ≠ some k → w'.heap[k]? = wr.heap[k]?) → (v'.ownBlock = v.ownBlock ∨ v'.ownBlock = some (wr.heap.size + 1)) → wpList Tryz.prog ops Q rest (a.put o.dst v') w') :
    wpList Tryz.prog ops Q (o :: rest) a (wr.alloc (.cells #[.int .u64 c.beg, .string c.key, .string c.data] 56)) := by
  subst hg
  obtain ⟨i0, hi, hz0, hz1, hz2⟩ := info_parts infoT
  refine wpList_plain hgd fun K hK => ?_
  obtain ⟨v', w', hr, hrow, hgrow, _, hloc⟩ := run_append_own_at (P := Tryz.prog) (w := wr.alloc (.cells #[.int .u64 c.beg, .string c.key, .string c.data] 56)) B 23 o.type 56 i0 _ 3 40 Tryz.underlying23 hi hz0 hz1 hz2 rfl (by decide) v vs.length _ (World.ownsRow.alloc hown _) ⟨wr.heap.size, 0, none⟩ 1 1 (cellT c) rfl (fun j u hj => by
      match j, hj with
      | 0, hj => simp [cellT] at hj; subst hj; simp [Addr.add]
      | 1, hj => simp [cellT] at hj; subst hj; simp [Addr.add]
      | 2, hj => simp [cellT] at hj; subst hj; simp [Addr.add]) (fun u hu => cellsT_one [c] u (by simpa [cellsT] using hu)) (by unfold maxLen; omega) (by omega) (by simp; omega)
  unfold Oper.wp execOp
  simp only [ho, resolve, invoke, builtin, Sem.run_bind, Sem.run_pure, Result.andThen_ok, List.map_toArray, List.map_cons, List.map_nil, hs, hx, hr]
  refine hK _ _ (h v' w' ?_ (((Below.refl _ _).alloc hB _).grown hgrow (by simp; omega) (fun k hk => (World.ownsRow.lt hown k hk).1)) ?_ ?_ ?_)
  · have : (vs ++ [c]).length = vs.length + 1 := by simp
    unfold ownT; rw [this, cellsT_app, show cellsT [c] = cellT c from by simp [cellsT]]; exact hrow
  · have := hgrow.size
    simpa using this
  · intro k hk hne
    exact (hgrow.block k (by simp; omega) (fun e => hne e.symm)).trans (Below.heap_alloc _ _ k hk)
  · simpa using hloc
/-- What stands while both lists are written full: nothing else is touched. -/
structure NkS (w : World) (LB : Nat) (v0 u0 : Value) (id lo hi gen : Int) (W : World) (v u : Value) (ds : List DT) (es : List ER) : Prop where
  m : Fp6 W w.heap.size (.int .i64 id) (.int .u64 lo) (.int .u64 hi) v (.int .i64 gen) u
  od : ownT W LB v ds
  oe : ownE W LB u es
  bel : Below LB w W
  lb : LB ≤ w.heap.size
  keep : ∀ k, k < w.heap.size → v0.ownBlock ≠ some k → u0.ownBlock ≠ some k → W.heap[k]? = w.heap[k]?
  atv : ∀ k, v.ownBlock = some k → v0.ownBlock = some k ∨ w.heap.size < k
  atu : ∀ k, u.ownBlock = some k → u0.ownBlock = some k ∨ w.heap.size < k
  lv : ∀ k, v0.ownBlock = some k → k < w.heap.size
  lu : ∀ k, u0.ownBlock = some k → k < w.heap.size
theorem NkS.c3 {w : World} {LB : Nat} {v0 u0 : Value} {id lo hi gen : Int} {W : World} {v u : Value} {ds : List DT} {es : List ER} (h : NkS w LB v0 u0 id lo hi gen W v u ds es) : W.cell? ⟨w.heap.size, 3, none⟩ = some v := h.m.cell 3
theorem NkS.c5 {w : World} {LB : Nat} {v0 u0 : Value} {id lo hi gen : Int} {W : World} {v u : Value} {ds : List DT} {es : List ER} (h : NkS w LB v0 u0 id lo hi gen W v u ds es) : W.cell? ⟨w.heap.size, 5, none⟩ = some u := h.m.cell 5
theorem NkS.nv {w : World} {LB : Nat} {v0 u0 : Value} {id lo hi gen : Int} {W : World} {v u : Value} {ds : List DT} {es : List ER} (h : NkS w LB v0 u0 id lo hi gen W v u ds es) : v.ownBlock ≠ some w.heap.size := fun e => by
  rcases h.atv _ e with e2 | e2
  · have := h.lv _ e2; omega
  · omega
theorem NkS.nu {w : World} {LB : Nat} {v0 u0 : Value} {id lo hi gen : Int} {W : World} {v u : Value} {ds : List DT} {es : List ER} (h : NkS w LB v0 u0 id lo hi gen W v u ds es) : u.ownBlock ≠ some w.heap.size := fun e => by
  rcases h.atu _ e with e2 | e2
  · have := h.lu _ e2; omega
  · omega
theorem NkS.layT {w : World} {LB gr n cap : Nat} {u0 : Value} {id lo hi gen : Int} {W : World} {u : Value} {ds : List DT} {es : List ER} (h : NkS w LB (.slice (some ⟨gr, 0, none⟩) n cap) u0 id lo hi gen W (.slice (some ⟨gr, 0, none⟩) n cap) u ds es) (hn : ds.length = n) (k : Nat) (hk : k < n) (x : DT) : NkS w LB (.slice (some ⟨gr, 0, none⟩) n cap) u0 id lo hi gen (putT W gr k x) (.slice (some ⟨gr, 0, none⟩) n cap) u (ds.set k x) es := by
  have hlo := (h.od.own gr rfl).1
  have hlt := h.lv gr rfl
  exact ⟨(putT_heap W gr k x _ (by omega)).trans h.m, h.od.put hn k hk x, h.oe.keep (fun g hg => putT_heap W gr k x g (fun e => by subst e; exact h.od.ne h.oe rfl hg)), putT_below h.bel hlo k x, h.lb, fun g hg h1 h2 => (putT_heap W gr k x g (fun e => h1 (by rw [e]; rfl))).trans (h.keep g hg h1 h2), h.atv, h.atu, h.lv, h.lu⟩
theorem NkS.layE {w : World} {LB gr n cap : Nat} {v0 : Value} {id lo hi gen : Int} {W : World} {v : Value} {ds : List DT} {es : List ER} (h : NkS w LB v0 (.slice (some ⟨gr, 0, none⟩) n cap) id lo hi gen W v (.slice (some ⟨gr, 0, none⟩) n cap) ds es) (hn : es.length = n) (k : Nat) (hk : k < n) (x : ER) : NkS w LB v0 (.slice (some ⟨gr, 0, none⟩) n cap) id lo hi gen (putE W gr k x) v (.slice (some ⟨gr, 0, none⟩) n cap) ds (es.set k x) := by
  have hlo := (h.oe.own gr rfl).1
  have hlt := h.lu gr rfl
  exact ⟨(putE_heap W gr k x _ (by omega)).trans h.m, h.od.keep (fun g hg => putE_heap W gr k x g (fun e => by subst e; exact h.od.ne h.oe hg rfl)), h.oe.put hn k hk x, putE_below h.bel hlo k x, h.lb, fun g hg h1 h2 => (putE_heap W gr k x g (fun e => h2 (by rw [e]; rfl))).trans (h.keep g hg h1 h2), h.atv, h.atu, h.lv, h.lu⟩
theorem NkS.appT {w : World} {LB : Nat} {v0 u0 : Value} {id lo hi gen : Int} {W W' : World} {v v' u : Value} {ds ds' : List DT} {es : List ER} (h : NkS w LB v0 u0 id lo hi gen W v u ds es) (ho : ownT W' LB v' ds') (hbl : Below LB W W') (hs : W.heap.size + 1 ≤ W'.heap.size) (hk : ∀ k, k < W.heap.size → v.ownBlock ≠ some k → W'.heap[k]? = W.heap[k]?) (hl : v'.ownBlock = v.ownBlock ∨ v'.ownBlock = some (W.heap.size + 1)) : Fp6 W' w.heap.size (.int .i64 id) (.int .u64 lo) (.int .u64 hi) v (.int .i64 gen) u ∧ NkS w LB v0 u0 id lo hi gen (W'.setCell ⟨w.heap.size, 3, none⟩ v') v' u ds' es := by
  have hsz := h.m.lt
  have hM := (hk _ h.m.lt h.nv).trans h.m
  have hoe : ownE W' LB u es := h.oe.keep (fun k e => hk k (h.oe.own k e).2 (fun e2 => h.od.ne h.oe e2 e))
  refine ⟨hM, Fp6.set3 hM v', ho.keep (fun k e => Below.heap_setCell _ _ _ k (fun e2 => ?_)), hoe.keep (fun k e => Below.heap_setCell _ _ _ k (fun e2 => ?_)), (h.bel.trans hbl).setCell (p := ⟨w.heap.size, 3, none⟩) h.lb _, h.lb, fun j hj hne hne2 => ?_, fun k e => ?_, h.atu, h.lv, h.lu⟩
  · have e3 : k = w.heap.size := e2
    subst e3
    rcases hl with e1 | e1
    · exact h.nv (e1 ▸ e)
    · rw [e1] at e; injection e with e; omega
  · have e3 : k = w.heap.size := e2
    subst e3
    exact h.nu e
  · refine (Below.heap_setCell _ _ _ j (by simp only; omega)).trans ((hk j (by omega) (fun e => ?_)).trans (h.keep j hj hne hne2))
    rcases h.atv _ e with e2 | e2
    · exact hne e2
    · omega
  · rcases hl with e1 | e1
    · exact h.atv k (e1 ▸ e)
    · rw [e1] at e; injection e with e; right; omega
theorem NkS.appE {w : World} {LB : Nat} {v0 u0 : Value} {id lo hi gen : Int} {W W' : World} {v u u' : Value} {ds : List DT} {es es' : List ER} (h : NkS w LB v0 u0 id lo hi gen W v u ds es) (ho : ownE W' LB u' es') (hbl : Below LB W W') (hs : W.heap.size + 1 ≤ W'.heap.size) (hk : ∀ k, k < W.heap.size → u.ownBlock ≠ some k → W'.heap[k]? = W.heap[k]?) (hl : u'.ownBlock = u.ownBlock ∨ u'.ownBlock = some (W.heap.size + 1)) : Fp6 W' w.heap.size (.int .i64 id) (.int .u64 lo) (.int .u64 hi) v (.int .i64 gen) u ∧ NkS w LB v0 u0 id lo hi gen (W'.setCell ⟨w.heap.size, 5, none⟩ u') v u' ds es' := by
  have hsz := h.m.lt
  have hM := (hk _ h.m.lt h.nu).trans h.m
  have hod : ownT W' LB v ds := h.od.keep (fun k e => hk k (h.od.own k e).2 (fun e2 => h.od.ne h.oe e e2))
  refine ⟨hM, Fp6.set5 hM u', hod.keep (fun k e => Below.heap_setCell _ _ _ k (fun e2 => ?_)), ho.keep (fun k e => Below.heap_setCell _ _ _ k (fun e2 => ?_)), (h.bel.trans hbl).setCell (p := ⟨w.heap.size, 5, none⟩) h.lb _, h.lb, fun j hj hne hne2 => ?_, h.atv, fun k e => ?_, h.lv, h.lu⟩
  · have e3 : k = w.heap.size := e2
    subst e3
    exact h.nv e
  · have e3 : k = w.heap.size := e2
    subst e3
    rcases hl with e1 | e1
    · exact h.nu (e1 ▸ e)
    · rw [e1] at e; injection e with e; omega
  · refine (Below.heap_setCell _ _ _ j (by simp only; omega)).trans ((hk j (by omega) (fun e => ?_)).trans (h.keep j hj hne hne2))
    rcases h.atu _ e with e2 | e2
    · exact hne2 e2
    · omega
  · rcases hl with e1 | e1
    · exact h.atu k (e1 ▸ e)
    · rw [e1] at e; injection e with e; right; omega
set_option maxHeartbeats 12800000 in
theorem marked_any (w : World) (id lo hi gen : Int) (da ao : Option Addr) (dc cap : Nat) (ds : List DT) (es : List ER) (LB : Nat) (hd : ownT w LB (.slice da ds.length dc) ds) (he : ownE w LB (.slice ao es.length cap) es) (hLB : LB ≤ w.heap.size) (hdl : ds.length ≤ 65536) (hel : es.length ≤ 65536) :
    Calls Tryz.prog 12 #[.agg #[.int .i64 id, .int .u64 lo, .int .u64 hi, .slice da ds.length dc, .int .i64 gen, .slice ao es.length cap]] w fun e w' => e = .returned (.tuple #[]) ∧ Below LB w w' ∧ ∀ k, k < w.heap.size → (Value.slice da ds.length dc).ownBlock ≠ some k → (Value.slice ao es.length cap).ownBlock ≠ some k → w'.heap[k]? = w.heap[k]? := by
  have HS0 : Hid (NkS w LB (.slice da ds.length dc) (.slice ao es.length cap) id lo hi gen (w.alloc (.cells #[.int .i64 id, .int .u64 lo, .int .u64 hi, .slice da ds.length dc, .int .i64 gen, .slice ao es.length cap] 26)) (.slice da ds.length dc) (.slice ao es.length cap) ds es) := ⟨heap_alloc_new w _, hd.alloc _, he.alloc _, (Below.refl _ _).alloc hLB _, hLB, fun k hk _ _ => Below.heap_alloc _ _ k hk, fun k hk => .inl hk, fun k hk => .inl hk, fun k hk => (World.ownsRow.lt hd k hk).2, fun k hk => (World.ownsRow.lt he k hk).2⟩
  clear hd he
  go_enter Tryz.func12, Tryz.ntmps12
  go_wp2_with fail
  generalize w.alloc (.cells #[.int .i64 id, .int .u64 lo, .int .u64 hi, .slice da ds.length dc, .int .i64 gen, .slice ao es.length cap] 26) = W0 at *
  go_loopw [2] (fun i wr => ∃ (k : Nat) (qs : List DT), k ≤ ds.length ∧ i = .int .i64 k ∧ qs.length = ds.length ∧ NkS w LB (.slice da ds.length dc) (.slice ao es.length cap) id lo hi gen wr (.slice da ds.length dc) (.slice ao es.length cap) qs es) (fun i _ => ds.length - (intOf i).toNat)
  case atStart => exact ⟨0, ds, by omega, rfl, rfl, HS0.out⟩
  case round =>
    obtain ⟨k, qs, hk, rfl, hq, hS⟩ := hrel
    have HSk : Hid (NkS w LB (.slice da ds.length dc) (.slice ao es.length cap) id lo hi gen wr (.slice da ds.length dc) (.slice ao es.length cap) qs es) := hS
    have HQ : Hid (qs.length = ds.length) := hq
    clear hS hq HS0
    have c3 : wr.cell? ⟨w.heap.size, 3, none⟩ = some (.slice da ds.length dc) := HSk.out.c3
    by_cases h1 : k < ds.length
    · obtain ⟨gr, e, _, hgr, hat, hfz⟩ := HSk.out.od.at k (by rw [HQ.out]; exact h1)
      obtain ⟨q0, q1, q2⟩ := hat
      subst e
      have z0 := hfz (k * 3)
      have z1 := hfz (k * 3 + 1)
      have z2 := hfz (k * 3 + 2)
      have hwr : IntKind.u64.wrap (k : Int) = (k : Int) := by rw [IntKind.wrap_u64]; omega
      have hSn := HSk.out.layT HQ.out k h1 ⟨(k : Int), ⟨#[120]⟩, ⟨#[109, 97, 114, 107, 101, 100]⟩⟩
      unfold Go.Proofs.YtgopplgknplkiaaGreatDoor.putT at hSn
      simp only at hSn
      have HSn : Hid _ := hSn
      clear hfz hSn
      go_wp2
      go_roundw
      case rel =>
        refine ⟨k + 1, qs.set k ⟨(k : Int), ⟨#[120]⟩, ⟨#[109, 97, 114, 107, 101, 100]⟩⟩, by omega, by go_num, by rw [List.length_set]; exact HQ.out, ?_⟩
        exact HSn.out
      case measure => simp [intOf]; omega
    · go_wp2_with fail
      clear c3
      go_loopw [3] (fun i wq => ∃ (t : Nat) (rs : List ER), t ≤ es.length ∧ i = .int .i64 t ∧ rs.length = es.length ∧ NkS w LB (.slice da ds.length dc) (.slice ao es.length cap) id lo hi gen wq (.slice da ds.length dc) (.slice ao es.length cap) qs rs) (fun i _ => es.length - (intOf i).toNat)
      case atStart => exact ⟨0, es, by omega, rfl, rfl, HSk.out⟩
      case round =>
        rename World => wq
        obtain ⟨t, rs, ht, rfl, hr, hS⟩ := hrel
        have HSt : Hid (NkS w LB (.slice da ds.length dc) (.slice ao es.length cap) id lo hi gen wq (.slice da ds.length dc) (.slice ao es.length cap) qs rs) := hS
        have HR : Hid (rs.length = es.length) := hr
        clear hS hr HSk
        have c5 : wq.cell? ⟨w.heap.size, 5, none⟩ = some (.slice ao es.length cap) := HSt.out.c5
        by_cases h2 : t < es.length
        · obtain ⟨gr, e, _, hgr, hat, hfz⟩ := HSt.out.oe.at t (by rw [HR.out]; exact h2)
          obtain ⟨q0, q1, q2⟩ := hat
          subst e
          have z0 := hfz (t * 3)
          have z1 := hfz (t * 3 + 1)
          have z2 := hfz (t * 3 + 2)
          have hwr : IntKind.u64.wrap (t : Int) = (t : Int) := by rw [IntKind.wrap_u64]; omega
          have hSn := HSt.out.layE HR.out t h2 ⟨7, (t : Int), ⟨#[120]⟩⟩
          unfold Go.Proofs.YtgopplgknplkiaaGreatDoor.putE at hSn
          simp only at hSn
          have HSn : Hid _ := hSn
          clear hfz hSn
          go_wp2
          go_roundw
          case rel =>
            refine ⟨t + 1, rs.set t ⟨7, (t : Int), ⟨#[120]⟩⟩, by omega, by go_num, by rw [List.length_set]; exact HR.out, ?_⟩
            exact HSn.out
          case measure => simp [intOf]; omega
        · go_wp2_with fail
          clear c5
          go_loopw [4] (fun i wx => ∃ (s : Nat) (v u : Value) (ms : List DT) (ns : List ER), s ≤ 20 ∧ i = .int .i64 s ∧ ms.length = ds.length + s ∧ ns.length = es.length + s ∧ NkS w LB (.slice da ds.length dc) (.slice ao es.length cap) id lo hi gen wx v u ms ns) (fun i _ => 20 - (intOf i).toNat)
          case atStart => exact ⟨0, _, _, qs, rs, by omega, rfl, HQ.out, HR.out, HSt.out⟩
          case round =>
            rename World => wx
            obtain ⟨s, v, u, ms, ns, hs, rfl, hm, hn, hS⟩ := hrel
            have HSx : Hid (NkS w LB (.slice da ds.length dc) (.slice ao es.length cap) id lo hi gen wx v u ms ns) := hS
            have HM : Hid (ms.length = ds.length + s) := hm
            have HN : Hid (ns.length = es.length + s) := hn
            clear hS hm hn HSt
            have c3 : wx.cell? ⟨w.heap.size, 3, none⟩ = some v := HSx.out.c3
            by_cases h3 : s < 20
            · obtain ⟨a1, n1, p1, rfl⟩ := HSx.out.od.isSlice
              have HLen : Hid ((ms.length + 1) * 40 ≤ 140737488355328) := by have := HM.out; show _ ≤ _; omega
              have HLen2 : Hid ((ns.length + 1) * 32 ≤ 140737488355328) := by have := HN.out; show _ ≤ _; omega
              go_wp2_with (at_builtin; refine hideG ?_)
              change wpList _ _ _ _ _ _
              refine app_dtL (by rfl) _ _ (by rfl) LB _ ms ⟨0, ⟨#[121]⟩, ⟨#[109, 111, 114, 101]⟩⟩ HSx.out.od (by rfl) _ rfl (by rfl) HLen.out (Nat.le_trans HSx.out.lb (Nat.le_of_lt HSx.out.m.lt)) ?_
              intro v' w' ho hbl' hs' hk' hl'
              obtain ⟨a2, n2, p2, rfl⟩ := ho.isSlice
              obtain ⟨hM, hS'⟩ := HSx.out.appT ho hbl' hs' hk' hl'
              have HS' : Hid _ := hS'
              have u3 : w'.cell? ⟨w.heap.size, 3, none⟩ = some (.slice a1 n1 p1) := hM.cell 3
              have u4 := hM.free 3
              clear ho hbl' hs' hk' hl' hM c3
              have c5 : (w'.setCell ⟨w.heap.size, 3, none⟩ (.slice a2 n2 p2)).cell? ⟨w.heap.size, 5, none⟩ = some u := hS'.c5
              clear hS'
              obtain ⟨b1, m1, r1, rfl⟩ := HS'.out.oe.isSlice
              go_wp2_with (at_builtin; refine hideG ?_)
              change wpList _ _ _ _ _ _
              have hszy : w'.heap.size = (w'.setCell ⟨w.heap.size, 3, none⟩ (.slice a2 n2 p2)).heap.size := by simp
              generalize w'.setCell ⟨w.heap.size, 3, none⟩ (.slice a2 n2 p2) = wy at *
              refine app_erL (by rfl) _ _ (by rfl) LB _ ns ⟨9, 0, ⟨#[121]⟩⟩ HS'.out.oe (by rfl) w'.heap.size hszy (by rfl) HLen2.out (Nat.le_trans HS'.out.lb (Nat.le_of_lt HS'.out.m.lt)) ?_
              intro v2 w2 ho hbl' hs' hk' hl'
              obtain ⟨b2, m2, r2, rfl⟩ := ho.isSlice
              obtain ⟨hM, hS2⟩ := HS'.out.appE ho hbl' hs' hk' hl'
              have HS2 : Hid _ := hS2
              have y3 : w2.cell? ⟨w.heap.size, 5, none⟩ = some (.slice b1 m1 r1) := hM.cell 5
              have y4 := hM.free 5
              clear ho hbl' hs' hk' hl' hM hS2 c5 u3 u4
              go_wp2
              go_roundw
              case rel => exact ⟨s + 1, _, _, _, _, by omega, by go_num, by rw [List.length_append, HM.out]; simp only [List.length_cons, List.length_nil]; omega, by rw [List.length_append, HN.out]; simp only [List.length_cons, List.length_nil]; omega, HS2.out⟩
              case measure => simp [intOf]; omega
            · clear c3
              go_wp2
              go_end0
              exact ⟨rfl, HSx.out.bel, HSx.out.keep⟩
end Go.Proofs.YtgopplgknplkiaaGreatDoor

namespace Go.Proofs.YtgopplgknplkiaaGreatDoor
open Go.ChangeShapes Go.WideShapes Go.ChangeAt Go.RowKit Go.Maps
set_option linter.unusedVariables false
set_option maxRecDepth 100000
/-- What stands in the law: the pair that came in, and the given one in the block G, with lists of its own. -/
structure GvD (w : World) (G : Nat) (id lo hi gen : Int) (mv mu : Value) (W : World) (v u : Value) (ds : List DT) (es : List ER) : Prop where
  bel : Below w.heap.size w W
  m : Fp6 W w.heap.size (.int .i64 id) (.int .u64 lo) (.int .u64 hi) mv (.int .i64 gen) mu
  g : Fp6 W G (.int .i64 id) (.int .u64 lo) (.int .u64 hi) v (.int .i64 gen) u
  od : ownT W (w.heap.size + 1) v ds
  oe : ownE W (w.heap.size + 1) u es
  r1 : w.heap.size < G
  nv : ∀ k, v.ownBlock = some k → k ≠ G
  nu : ∀ k, u.ownBlock = some k → k ≠ G
theorem GvD.later {w : World} {G : Nat} {id lo hi gen : Int} {mv mu : Value} {W W' : World} {v u : Value} {ds : List DT} {es : List ER} (h : GvD w G id lo hi gen mv mu W v u ds es) (hb : Below W.heap.size W W') : GvD w G id lo hi gen mv mu W' v u ds es :=
  ⟨h.bel.trans (hb.mono h.bel.size), h.m.later hb h.m.lt, h.g.later hb h.g.lt, h.od.later hb, h.oe.later hb, h.r1, h.nv, h.nu⟩
theorem GvD.back {w : World} {G : Nat} {id lo hi gen : Int} {mv mu : Value} {W W' : World} {v u : Value} {ds : List DT} {es : List ER} {n m : Nat} {e : Ending} (h : GvD w G id lo hi gen mv mu W v u ds es) (hp : BwP W (w.heap.size + 1) v u n m e W') : e = .returned (.tuple #[]) ∧ ∃ qd qe, qd.length = n ∧ qe.length = m ∧ (∀ p ∈ qe, p.wf) ∧ GvD w G id lo hi gen mv mu W' v u qd qe := by
  obtain ⟨he, hb, hk, qd, qe, h1, h2, h3, h4, h5⟩ := hp
  refine ⟨he, qd, qe, h1, h2, h3, h.bel.trans (hb.mono (by omega)), (hk _ h.m.lt (fun e => ?_) (fun e => ?_)).trans h.m, (hk _ h.g.lt (fun e => h.nv _ e rfl) (fun e => h.nu _ e rfl)).trans h.g, h4, h5, h.r1, h.nv, h.nu⟩
  · have := (h.od.own _ e).1; omega
  · have := (h.oe.own _ e).1; omega
/-- Three pairs that were read, the first of them in blocks below lim. -/
structure DsD (w W : World) (Q1 Q2 R1 lim : Nat) (id gen : Int) (va vb vc : Value) (es : List ER) : Prop where
  q : Fp6 W Q1 (.int .i64 id) (.int .u64 0) (.int .u64 0) (.slice none 0 0) (.int .i64 gen) va
  q2 : Fp6 W Q2 (.int .i64 id) (.int .u64 0) (.int .u64 0) (.slice none 0 0) (.int .i64 gen) vb
  r : Fp6 W R1 (.int .i64 id) (.int .u64 0) (.int .u64 0) (.slice none 0 0) (.int .i64 gen) vc
  oa : ownE W w.heap.size va es
  bel : Below w.heap.size w W
  ob : ownE W lim vb es
  oc : ownE W lim vc es
  la : ∀ k, va.ownBlock = some k → k < lim
  l2 : lim ≤ Q2
  l3 : lim ≤ R1
theorem DsD.later {w W W' : World} {Q1 Q2 R1 lim : Nat} {id gen : Int} {va vb vc : Value} {es : List ER} (h : DsD w W Q1 Q2 R1 lim id gen va vb vc es) (hb : Below W.heap.size W W') : DsD w W' Q1 Q2 R1 lim id gen va vb vc es :=
  ⟨h.q.later hb h.q.lt, h.q2.later hb h.q2.lt, h.r.later hb h.r.lt, h.oa.later hb, h.bel.trans (hb.mono h.bel.size), h.ob.later hb, h.oc.later hb, h.la, h.l2, h.l3⟩
theorem DsD.marked {w W W' : World} {Q1 Q2 R1 lim : Nat} {id gen : Int} {va vb vc : Value} {es : List ER} (h : DsD w W Q1 Q2 R1 lim id gen va vb vc es) (hk : ∀ k, k < W.heap.size → (Value.slice none 0 0).ownBlock ≠ some k → va.ownBlock ≠ some k → W'.heap[k]? = W.heap[k]?) : Fp6 W' Q2 (.int .i64 id) (.int .u64 0) (.int .u64 0) (.slice none 0 0) (.int .i64 gen) vb ∧ Fp6 W' R1 (.int .i64 id) (.int .u64 0) (.int .u64 0) (.slice none 0 0) (.int .i64 gen) vc ∧ ownE W' lim vb es ∧ ownE W' lim vc es := by
  have hn : ∀ k, (Value.slice none 0 0).ownBlock ≠ some k := fun k e => by cases e
  have hne : ∀ k, lim ≤ k → va.ownBlock ≠ some k := fun k hl e => by have := h.la k e; omega
  exact ⟨(hk _ h.q2.lt (hn _) (hne _ h.l2)).trans h.q2, (hk _ h.r.lt (hn _) (hne _ h.l3)).trans h.r, h.ob.keep (fun k e => hk k (h.ob.own k e).2 (hn k) (hne k (h.ob.own k e).1)), h.oc.keep (fun k e => hk k (h.oc.own k e).2 (hn k) (hne k (h.oc.own k e).1))⟩
theorem SeesT_none (W : World) (B : Nat) : SeesT W B none [] := fun i hi => absurd hi (by simp)
theorem ownT_none (W : World) (B : Nat) : ownT W B (.slice none ([] : List DT).length 0) [] := ownT_nil W B
set_option maxHeartbeats 25600000 in
theorem delta_walk (w : World) (id lo hi gen : Int) (da ao : Option Addr) (dc cap : Nat) (ds : List DT) (es : List ER) (b : ByteArray) (hd : SeesT w w.heap.size da ds) (hdc : da = none → ds = [] ∧ dc = 0) (hda : ∀ ad, da = some ad → ds ≠ [] → ∃ b off, ad = ⟨b, off, none⟩) (hdl : ds.length * 40 ≤ 140737488355328) (ha : SeesE w w.heap.size ao es) (hcap : ao = none → es = [] ∧ cap = 0) (hao : ∀ ad, ao = some ad → es ≠ [] → ∃ b off, ad = ⟨b, off, none⟩) (hw : ∀ p ∈ es, p.wf) (hds : ∀ d ∈ ds, d.data.size ≤ 140737488355328) (hl : es.length * 32 ≤ 140737488355328) (hs : b.size ≤ 1125899906842624) (hT : HalfAt w) :
    Calls Tryz.prog 3 #[.agg #[.int .i64 id, .int .u64 lo, .int .u64 hi, .slice da ds.length dc, .int .i64 gen, .slice ao es.length cap], .string b] w fun e w' => e = .returned (.bool true) ∧ Below w.heap.size w w' := by
  obtain ⟨st1, cd1, c10, c11, HE1, HR1⟩ := encD_both id gen es hw
  have HE : Hid _ := HE1
  have HR : Hid _ := HR1
  have HA : Hid (SeesE w w.heap.size ao es) := ha
  have HD : Hid (SeesT w w.heap.size da ds) := hd
  have HT : Hid (HalfAt w) := hT
  have HW : Hid (∀ p ∈ es, p.wf) := hw
  have HDs : Hid (∀ d ∈ ds, d.data.size ≤ 140737488355328) := hds
  have HTa : Hid (∀ W id' lo' hi' gen' a d c c' (xs : List DT) (ys : List ER), xs.length = ds.length → ys.length = es.length → ownT W (w.heap.size + 1) (.slice a ds.length c) xs → ownE W (w.heap.size + 1) (.slice d es.length c') ys → Calls Tryz.prog 4 #[.agg #[.int .i64 id', .int .u64 lo', .int .u64 hi', .slice a ds.length c, .int .i64 gen', .slice d es.length c']] W (TwD W id' lo' hi' gen' xs ys)) := fun W id' lo' hi' gen' a d c c' xs ys hx hy h1 h2 => by
    obtain ⟨a1, q1, e1, hn1, hs1⟩ := h1.slice
    obtain ⟨a2, q2, e2, hn2, hs2⟩ := h2.slice
    injection e1 with i1 i2 i3
    injection e2 with k1 k2 k3
    subst i1 i3 k1 k3
    have := twin_any W id' lo' hi' gen' a d c c' xs ys h1.sees hn1 (fun ad e _ => by obtain ⟨b', e5, _⟩ := hs1 ad e; exact ⟨b', 0, e5⟩) (by rw [hx]; exact hdl) h2.sees hn2 (fun ad e _ => by obtain ⟨b', e5, _⟩ := hs2 ad e; exact ⟨b', 0, e5⟩) (by rw [hy]; exact hl)
    rwa [hx, hy] at this
  have hb0 : Below w.heap.size w (w.alloc (.cells #[.int .i64 id, .int .u64 lo, .int .u64 hi, .slice da ds.length dc, .int .i64 gen, .slice ao es.length cap] 26)) := (Below.refl _ _).alloc (Nat.le_refl _) _
  have HM0 : Hid (Fp6 (w.alloc (.cells #[.int .i64 id, .int .u64 lo, .int .u64 hi, .slice da ds.length dc, .int .i64 gen, .slice ao es.length cap] 26)) w.heap.size (.int .i64 id) (.int .u64 lo) (.int .u64 hi) (.slice da ds.length dc) (.int .i64 gen) (.slice ao es.length cap)) := heap_alloc_new w _
  have HTw : Hid (∀ _ : Unit, _) := fun _ => twin_any (w.alloc (.cells #[.int .i64 id, .int .u64 lo, .int .u64 hi, .slice da ds.length dc, .int .i64 gen, .slice ao es.length cap] 26)) id lo hi gen da ao dc cap ds es (hd.more hb0) hdc hda hdl (ha.more hb0) hcap hao hl
  have HB0 : Hid _ := hb0
  have hdl' : ds.length ≤ 9000000000000 := by omega
  have hl' : es.length ≤ 9000000000000 := by omega
  clear HE1 HR1 ha hd hcap hao hT hw hb0 hdc hda hds
  go_enter Tryz.func3, Tryz.ntmps3
  go_wp2_with fail
  generalize hy0 : w.alloc (.cells #[.int .i64 id, .int .u64 lo, .int .u64 hi, .slice da ds.length dc, .int .i64 gen, .slice ao es.length cap] 26) = y0 at *
  clear hy0
  refine (HTw.out ()).mono ?_
  rintro e w1 ⟨hb1, v, u, rfl, ho1, ho2⟩
  have hy := HM0.out.lt
  have hG := ho1.own
  have hG2 := ho2.own
  obtain ⟨av, cv, rfl, -, -⟩ := ho1.slice
  obtain ⟨bv, cu, rfl, -, -⟩ := ho2.slice
  have HS1 : Hid (GvD w w1.heap.size id lo hi gen (.slice da ds.length dc) (.slice ao es.length cap) (w1.alloc (.cells #[.int .i64 id, .int .u64 lo, .int .u64 hi, .slice av ds.length cv, .int .i64 gen, .slice bv es.length cu] 26)) (.slice av ds.length cv) (.slice bv es.length cu) ds es) := by
    have hal : Below w1.heap.size w1 (w1.alloc (.cells #[.int .i64 id, .int .u64 lo, .int .u64 hi, .slice av ds.length cv, .int .i64 gen, .slice bv es.length cu] 26)) := (Below.refl _ _).alloc (Nat.le_refl _) _
    have hsz := hb1.size
    exact ⟨(HB0.out.trans (hb1.mono HB0.out.size)).trans (hal.mono (by omega)), (HM0.out.later hb1 hy).later hal (by omega), heap_alloc_new w1 _, (ho1.later hal).mono (by omega), (ho2.later hal).mono (by omega), by omega, fun k hk => by have := (hG k hk).2; omega, fun k hk => by have := (hG2 k hk).2; omega⟩
  clear hb1 ho1 ho2 hy hG hG2 HTw HM0 HB0
  go_wp2_with fail
  generalize hy1 : w1.alloc (.cells #[.int .i64 id, .int .u64 lo, .int .u64 hi, .slice av ds.length cv, .int .i64 gen, .slice bv es.length cu] 26) = y1 at *
  generalize hGG : w1.heap.size = G at *
  clear hy1 hGG
  have HE1 : Hid (∀ W, GvD w G id lo hi gen (.slice da ds.length dc) (.slice ao es.length cap) W (.slice av ds.length cv) (.slice bv es.length cu) ds es → Calls Tryz.prog 5 #[.agg #[.int .i64 id, .int .u64 lo, .int .u64 hi, .slice av ds.length cv, .int .i64 gen, .slice bv es.length cu]] W fun e w' => e = .returned (.tuple #[.string st1, .int .i64 cd1]) ∧ Below W.heap.size W w') := fun W h => HE.out W lo hi av ds.length cv bv cu h.oe.sees (HT.out.later h.bel)
  have HR1 : Hid (∀ W, GvD w G id lo hi gen (.slice da ds.length dc) (.slice ao es.length cap) W (.slice av ds.length cv) (.slice bv es.length cu) ds es → Calls Tryz.prog 6 #[.agg #[.int .i64 id, .int .u64 lo, .int .u64 hi, .slice da ds.length dc, .int .i64 gen, .slice ao es.length cap]] W fun e w' => e = .returned (.tuple #[.string st1, .int .i64 cd1]) ∧ Below W.heap.size W w') := fun W h => HR.out W lo hi da ds.length dc ao cap (HA.out.more h.bel)
  have HQ1 : Hid (∀ W, GvD w G id lo hi gen (.slice da ds.length dc) (.slice ao es.length cap) W (.slice av ds.length cv) (.slice bv es.length cu) ds es → Calls Tryz.prog 8 #[.agg #[.int .i64 id, .int .u64 lo, .int .u64 hi, .slice av ds.length cv, .int .i64 gen, .slice bv es.length cu], .agg #[.int .i64 id, .int .u64 lo, .int .u64 hi, .slice da ds.length dc, .int .i64 gen, .slice ao es.length cap]] W fun e w' => e = .returned (.bool true) ∧ Below W.heap.size W w') := fun W h => samePair_eq W id lo hi gen av da bv ao cv dc cu cap ds es h.od.sees (HD.out.more h.bel) h.oe.sees (HA.out.more h.bel) hdl' hl'
  clear HE HR
  refine (HE1.out y1 HS1.out).mono ?_
  rintro e w2 ⟨rfl, hb2⟩
  have HS2 : Hid (GvD w G id lo hi gen (.slice da ds.length dc) (.slice ao es.length cap) w2 (.slice av ds.length cv) (.slice bv es.length cu) ds es) := HS1.out.later hb2
  clear hb2 HS1
  have g0 : w2.cell? ⟨G, 0, none⟩ = some (.int .i64 id) := HS2.out.g.cell 0
  have g1 : w2.cell? ⟨G, 1, none⟩ = some (.int .u64 lo) := HS2.out.g.cell 1
  have g2 : w2.cell? ⟨G, 2, none⟩ = some (.int .u64 hi) := HS2.out.g.cell 2
  have g3 : w2.cell? ⟨G, 3, none⟩ = some (.slice av ds.length cv) := HS2.out.g.cell 3
  have g4 : w2.cell? ⟨G, 4, none⟩ = some (.int .i64 gen) := HS2.out.g.cell 4
  have g5 : w2.cell? ⟨G, 5, none⟩ = some (.slice bv es.length cu) := HS2.out.g.cell 5
  have m0 : w2.cell? ⟨w.heap.size, 0, none⟩ = some (.int .i64 id) := HS2.out.m.cell 0
  have m1 : w2.cell? ⟨w.heap.size, 1, none⟩ = some (.int .u64 lo) := HS2.out.m.cell 1
  have m2 : w2.cell? ⟨w.heap.size, 2, none⟩ = some (.int .u64 hi) := HS2.out.m.cell 2
  have m3 : w2.cell? ⟨w.heap.size, 3, none⟩ = some (.slice da ds.length dc) := HS2.out.m.cell 3
  have m4 : w2.cell? ⟨w.heap.size, 4, none⟩ = some (.int .i64 gen) := HS2.out.m.cell 4
  have m5 : w2.cell? ⟨w.heap.size, 5, none⟩ = some (.slice ao es.length cap) := HS2.out.m.cell 5
  go_wp2_with fail
  refine (HR1.out w2 HS2.out).mono ?_
  rintro e w3 ⟨rfl, hb3⟩
  have HS3 : Hid (GvD w G id lo hi gen (.slice da ds.length dc) (.slice ao es.length cap) w3 (.slice av ds.length cv) (.slice bv es.length cu) ds es) := HS2.out.later hb3
  clear hb3 HS2 HR1 HE1 g0 g1 g2 g3 g4 g5 m0 m1 m2 m3 m4 m5
  have g0 : w3.cell? ⟨G, 0, none⟩ = some (.int .i64 id) := HS3.out.g.cell 0
  have g1 : w3.cell? ⟨G, 1, none⟩ = some (.int .u64 lo) := HS3.out.g.cell 1
  have g2 : w3.cell? ⟨G, 2, none⟩ = some (.int .u64 hi) := HS3.out.g.cell 2
  have g3 : w3.cell? ⟨G, 3, none⟩ = some (.slice av ds.length cv) := HS3.out.g.cell 3
  have g4 : w3.cell? ⟨G, 4, none⟩ = some (.int .i64 gen) := HS3.out.g.cell 4
  have g5 : w3.cell? ⟨G, 5, none⟩ = some (.slice bv es.length cu) := HS3.out.g.cell 5
  have m0 : w3.cell? ⟨w.heap.size, 0, none⟩ = some (.int .i64 id) := HS3.out.m.cell 0
  have m1 : w3.cell? ⟨w.heap.size, 1, none⟩ = some (.int .u64 lo) := HS3.out.m.cell 1
  have m2 : w3.cell? ⟨w.heap.size, 2, none⟩ = some (.int .u64 hi) := HS3.out.m.cell 2
  have m3 : w3.cell? ⟨w.heap.size, 3, none⟩ = some (.slice da ds.length dc) := HS3.out.m.cell 3
  have m4 : w3.cell? ⟨w.heap.size, 4, none⟩ = some (.int .i64 gen) := HS3.out.m.cell 4
  have m5 : w3.cell? ⟨w.heap.size, 5, none⟩ = some (.slice ao es.length cap) := HS3.out.m.cell 5
  go_wp2_with fail
  refine (num_any cd1 w3 c10 c11).mono ?_
  rintro e w4 ⟨rfl, rfl⟩
  go_wp2_with fail
  refine (HQ1.out w4 HS3.out).mono ?_
  rintro e w5 ⟨rfl, hb5⟩
  have HS5 : Hid (GvD w G id lo hi gen (.slice da ds.length dc) (.slice ao es.length cap) w5 (.slice av ds.length cv) (.slice bv es.length cu) ds es) := HS3.out.later hb5
  clear hb5 HS3 HQ1 g0 g1 g2 g3 g4 g5 m0 m1 m2 m3 m4 m5
  have g0 : w5.cell? ⟨G, 0, none⟩ = some (.int .i64 id) := HS5.out.g.cell 0
  have g1 : w5.cell? ⟨G, 1, none⟩ = some (.int .u64 lo) := HS5.out.g.cell 1
  have g2 : w5.cell? ⟨G, 2, none⟩ = some (.int .u64 hi) := HS5.out.g.cell 2
  have g3 : w5.cell? ⟨G, 3, none⟩ = some (.slice av ds.length cv) := HS5.out.g.cell 3
  have g4 : w5.cell? ⟨G, 4, none⟩ = some (.int .i64 gen) := HS5.out.g.cell 4
  have g5 : w5.cell? ⟨G, 5, none⟩ = some (.slice bv es.length cu) := HS5.out.g.cell 5
  go_wp2_with fail
  refine (backwards_any w5 (w.heap.size + 1) id lo hi gen av bv cv cu ds es HS5.out.od HS5.out.oe (by have := HS5.out.m.lt; omega) HW.out HDs.out hdl' hl').mono ?_
  rintro e w6 hp
  obtain ⟨rfl, QD, QE, hqd, hqe, hqw, hS6⟩ := HS5.out.back hp
  have HS6 : Hid (GvD w G id lo hi gen (.slice da ds.length dc) (.slice ao es.length cap) w6 (.slice av ds.length cv) (.slice bv es.length cu) QD QE) := hS6
  have HQd : Hid (QD.length = ds.length) := hqd
  have HQe : Hid (QE.length = es.length) := hqe
  have HQw : Hid (∀ p ∈ QE, p.wf) := hqw
  clear hp hS6 hqd hqe hqw HS5 g0 g1 g2 g3 g4 g5
  have HDB : Hid _ := decD_both b hs
  obtain ⟨st2, cd2, c20, c21, hE2, hR2⟩ := encD_both id gen QE HQw.out
  have HE2 : Hid (∀ W, GvD w G id lo hi gen (.slice da ds.length dc) (.slice ao es.length cap) W (.slice av ds.length cv) (.slice bv es.length cu) QD QE → Calls Tryz.prog 5 #[.agg #[.int .i64 id, .int .u64 lo, .int .u64 hi, .slice av ds.length cv, .int .i64 gen, .slice bv es.length cu]] W fun e w' => e = .returned (.tuple #[.string st2, .int .i64 cd2]) ∧ Below W.heap.size W w') := fun W h => by
    have := hE2 W lo hi av ds.length cv bv cu h.oe.sees (HT.out.later h.bel)
    rwa [HQe.out] at this
  have HR2 : Hid (∀ W a c a' c', SeesE W W.heap.size a' QE → Calls Tryz.prog 6 #[.agg #[.int .i64 id, .int .u64 lo, .int .u64 hi, .slice a ds.length c, .int .i64 gen, .slice a' es.length c']] W fun e w' => e = .returned (.tuple #[.string st2, .int .i64 cd2]) ∧ Below W.heap.size W w') := fun W a c a' c' h => by
    have := hR2 W lo hi a ds.length c a' c' h
    rwa [HQe.out] at this
  have HTw2 : Hid (∀ W, GvD w G id lo hi gen (.slice da ds.length dc) (.slice ao es.length cap) W (.slice av ds.length cv) (.slice bv es.length cu) QD QE → Calls Tryz.prog 4 #[.agg #[.int .i64 id, .int .u64 lo, .int .u64 hi, .slice av ds.length cv, .int .i64 gen, .slice bv es.length cu]] W fun e w' => Below W.heap.size W w' ∧ ∃ a c a' c', e = .returned (.agg #[.int .i64 id, .int .u64 lo, .int .u64 hi, .slice a ds.length c, .int .i64 gen, .slice a' es.length c']) ∧ SeesE w' w'.heap.size a' QE) := fun W h => by
    refine (HTa.out W id lo hi gen av bv cv cu QD QE HQd.out HQe.out h.od h.oe).mono ?_
    rintro e w' ⟨hb, v, u, he, ho, ho2⟩
    obtain ⟨a1, c1, e1, -, -⟩ := ho.slice
    obtain ⟨a2, c2, e2, -, -⟩ := ho2.slice
    rw [HQd.out] at e1
    rw [HQe.out] at e2
    subst e1 e2
    exact ⟨hb, a1, c1, a2, c2, he, ho2.sees⟩
  clear hE2 hR2 HTa
  have g0 : w6.cell? ⟨G, 0, none⟩ = some (.int .i64 id) := HS6.out.g.cell 0
  have g1 : w6.cell? ⟨G, 1, none⟩ = some (.int .u64 lo) := HS6.out.g.cell 1
  have g2 : w6.cell? ⟨G, 2, none⟩ = some (.int .u64 hi) := HS6.out.g.cell 2
  have g3 : w6.cell? ⟨G, 3, none⟩ = some (.slice av ds.length cv) := HS6.out.g.cell 3
  have g4 : w6.cell? ⟨G, 4, none⟩ = some (.int .i64 gen) := HS6.out.g.cell 4
  have g5 : w6.cell? ⟨G, 5, none⟩ = some (.slice bv es.length cu) := HS6.out.g.cell 5
  go_wp2_with fail
  refine (HE2.out w6 HS6.out).mono ?_
  rintro e w7 ⟨rfl, hb7⟩
  have HS7 : Hid (GvD w G id lo hi gen (.slice da ds.length dc) (.slice ao es.length cap) w7 (.slice av ds.length cv) (.slice bv es.length cu) QD QE) := HS6.out.later hb7
  clear hb7 HE2 HS6 g0 g1 g2 g3 g4 g5
  have g0 : w7.cell? ⟨G, 0, none⟩ = some (.int .i64 id) := HS7.out.g.cell 0
  have g1 : w7.cell? ⟨G, 1, none⟩ = some (.int .u64 lo) := HS7.out.g.cell 1
  have g2 : w7.cell? ⟨G, 2, none⟩ = some (.int .u64 hi) := HS7.out.g.cell 2
  have g3 : w7.cell? ⟨G, 3, none⟩ = some (.slice av ds.length cv) := HS7.out.g.cell 3
  have g4 : w7.cell? ⟨G, 4, none⟩ = some (.int .i64 gen) := HS7.out.g.cell 4
  have g5 : w7.cell? ⟨G, 5, none⟩ = some (.slice bv es.length cu) := HS7.out.g.cell 5
  go_wp2_with fail
  refine (HTw2.out w7 HS7.out).mono ?_
  rintro e w8 ⟨hb8, a7, c7, a8, c8, rfl, hs8⟩
  have HR8 : Hid (∀ _ : Unit, _) := fun _ => HR2.out w8 a7 c7 a8 c8 hs8
  have HB8 : Hid (Below w.heap.size w w8) := HS7.out.bel.trans (hb8.mono HS7.out.bel.size)
  clear hb8 hs8 HTw2 HR2 HS7 g0 g1 g2 g3 g4 g5
  go_wp2_with fail
  refine (HR8.out ()).mono ?_
  rintro e w9 ⟨rfl, hb9⟩
  have HB9 : Hid (Below w.heap.size w w9) := HB8.out.trans (hb9.mono HB8.out.size)
  clear hb9 HR8 HB8
  go_wp2_with fail
  refine (num_any cd2 w9 c20 c21).mono ?_
  rintro e w0 ⟨rfl, rfl⟩
  go_wp2_with fail
  obtain ⟨di, dg, xs, dc', d0, d1, dl, hD, hR⟩ := HDB.out
  have HDd : Hid _ := hD
  have HRr : Hid _ := hR
  clear hD hR HDB
  refine (HDd.out w0 (HT.out.later HB9.out)).mono ?_
  rintro e wa ⟨hba, va, rfl, hoa⟩
  obtain ⟨aa, ca, rfl, -, -⟩ := hoa.slice
  have HOa : Hid (ownE wa w0.heap.size (.slice aa xs.length ca) xs) := hoa
  have HBa : Hid (Below w.heap.size w wa) := HB9.out.trans (hba.mono HB9.out.size)
  have hl9 := hba.size
  have h9w := HB9.out.size
  have hla : ∀ k, (Value.slice aa xs.length ca).ownBlock = some k → k < wa.heap.size := fun k e => (hoa.own k e).2
  have HLA : Hid _ := hla
  clear hba hoa HB9 hla
  have hya : Below wa.heap.size wa (wa.alloc (.cells #[.int .i64 di, .int .u64 0, .int .u64 0, .slice none 0 0, .int .i64 dg, .slice aa xs.length ca] 26)) := (Below.refl _ _).alloc (Nat.le_refl _) _
  have HQa : Hid (Fp6 (wa.alloc (.cells #[.int .i64 di, .int .u64 0, .int .u64 0, .slice none 0 0, .int .i64 dg, .slice aa xs.length ca] 26)) wa.heap.size (.int .i64 di) (.int .u64 0) (.int .u64 0) (.slice none 0 0) (.int .i64 dg) (.slice aa xs.length ca)) := heap_alloc_new wa _
  have HOa2 : Hid (ownE (wa.alloc (.cells #[.int .i64 di, .int .u64 0, .int .u64 0, .slice none 0 0, .int .i64 dg, .slice aa xs.length ca] 26)) w0.heap.size (.slice aa xs.length ca) xs) := HOa.out.later hya
  have HBa2 : Hid (Below w.heap.size w (wa.alloc (.cells #[.int .i64 di, .int .u64 0, .int .u64 0, .slice none 0 0, .int .i64 dg, .slice aa xs.length ca] 26))) := HBa.out.trans (hya.mono HBa.out.size)
  clear hya HOa HBa
  go_wp2_with fail
  generalize hy : (wa.alloc (.cells #[.int .i64 di, .int .u64 0, .int .u64 0, .slice none 0 0, .int .i64 dg, .slice aa xs.length ca] 26)) = ya at *
  generalize hQ1 : wa.heap.size = Q1 at *
  clear hy hQ1
  refine (HDd.out ya (HT.out.later HBa2.out)).mono ?_
  rintro e wb ⟨hbb, vb, rfl, hob⟩
  obtain ⟨ab, cb, rfl, -, -⟩ := hob.slice
  have hqy := HQa.out.lt
  have HQb : Hid (Fp6 wb Q1 (.int .i64 di) (.int .u64 0) (.int .u64 0) (.slice none 0 0) (.int .i64 dg) (.slice aa xs.length ca)) := HQa.out.later hbb hqy
  have HOa3 : Hid (ownE wb w0.heap.size (.slice aa xs.length ca) xs) := HOa2.out.later hbb
  have HOb : Hid (ownE wb ya.heap.size (.slice ab xs.length cb) xs) := hob
  have HBb : Hid (Below w.heap.size w wb) := HBa2.out.trans (hbb.mono HBa2.out.size)
  have hyb := hbb.size
  have hal : Below wb.heap.size wb (wb.alloc (.cells #[.int .i64 di, .int .u64 0, .int .u64 0, .slice none 0 0, .int .i64 dg, .slice ab xs.length cb] 26)) := (Below.refl _ _).alloc (Nat.le_refl _) _
  have HQb2 : Hid (Fp6 (wb.alloc (.cells #[.int .i64 di, .int .u64 0, .int .u64 0, .slice none 0 0, .int .i64 dg, .slice ab xs.length cb] 26)) Q1 (.int .i64 di) (.int .u64 0) (.int .u64 0) (.slice none 0 0) (.int .i64 dg) (.slice aa xs.length ca)) := HQb.out.later hal HQb.out.lt
  have HQ2b : Hid (Fp6 (wb.alloc (.cells #[.int .i64 di, .int .u64 0, .int .u64 0, .slice none 0 0, .int .i64 dg, .slice ab xs.length cb] 26)) wb.heap.size (.int .i64 di) (.int .u64 0) (.int .u64 0) (.slice none 0 0) (.int .i64 dg) (.slice ab xs.length cb)) := heap_alloc_new wb _
  have HOa4 : Hid (ownE (wb.alloc (.cells #[.int .i64 di, .int .u64 0, .int .u64 0, .slice none 0 0, .int .i64 dg, .slice ab xs.length cb] 26)) w0.heap.size (.slice aa xs.length ca) xs) := HOa3.out.later hal
  have HOb2 : Hid (ownE (wb.alloc (.cells #[.int .i64 di, .int .u64 0, .int .u64 0, .slice none 0 0, .int .i64 dg, .slice ab xs.length cb] 26)) ya.heap.size (.slice ab xs.length cb) xs) := HOb.out.later hal
  have HBb2 : Hid (Below w.heap.size w (wb.alloc (.cells #[.int .i64 di, .int .u64 0, .int .u64 0, .slice none 0 0, .int .i64 dg, .slice ab xs.length cb] 26))) := HBb.out.trans (hal.mono HBb.out.size)
  clear hbb hob HQa HOa2 HBa2 HQb HOa3 HOb HBb hal
  go_wp2_with fail
  generalize hy : (wb.alloc (.cells #[.int .i64 di, .int .u64 0, .int .u64 0, .slice none 0 0, .int .i64 dg, .slice ab xs.length cb] 26)) = yb at *
  generalize hQ2 : wb.heap.size = Q2 at *
  clear hy hQ2
  refine (HRr.out yb).mono ?_
  rintro e wc ⟨hbc, vc, rfl, hoc⟩
  obtain ⟨ac, cc, rfl, -, -⟩ := hoc.slice
  have hq2y := HQ2b.out.lt
  have hwc := hbc.size
  have HDS : Hid (DsD w (wc.alloc (.cells #[.int .i64 di, .int .u64 0, .int .u64 0, .slice none 0 0, .int .i64 dg, .slice ac xs.length cc] 26)) Q1 Q2 wc.heap.size (Q1 + 1) di dg (.slice aa xs.length ca) (.slice ab xs.length cb) (.slice ac xs.length cc) xs) := by
    have hal : Below wc.heap.size wc (wc.alloc (.cells #[.int .i64 di, .int .u64 0, .int .u64 0, .slice none 0 0, .int .i64 dg, .slice ac xs.length cc] 26)) := (Below.refl _ _).alloc (Nat.le_refl _) _
    exact ⟨(HQb2.out.later hbc HQb2.out.lt).later hal (by omega), (HQ2b.out.later hbc hq2y).later hal (by omega), heap_alloc_new wc _, ((HOa4.out.later hbc).later hal).mono h9w, (HBb2.out.trans (hbc.mono HBb2.out.size)).trans (hal.mono (Nat.le_trans HBb2.out.size hbc.size)), ((HOb2.out.later hbc).later hal).mono (by omega), (hoc.later hal).mono (by omega), fun k e => by have := HLA.out k e; omega, by omega, by omega⟩
  clear hbc hoc HQb2 HQ2b HOa4 HOb2 HBb2 HLA HDd HRr
  go_wp2_with fail
  generalize hy : (wc.alloc (.cells #[.int .i64 di, .int .u64 0, .int .u64 0, .slice none 0 0, .int .i64 dg, .slice ac xs.length cc] 26)) = yc at *
  generalize hR1 : wc.heap.size = R1 at *
  clear hy hR1
  refine (num_any dc' yc d0 d1).mono ?_
  rintro e yd ⟨rfl, rfl⟩
  have HSm : Hid (∀ W a c a' c', SeesE W W.heap.size a xs → SeesE W W.heap.size a' xs → Calls Tryz.prog 8 #[.agg #[.int .i64 di, .int .u64 0, .int .u64 0, .slice none 0 0, .int .i64 dg, .slice a xs.length c], .agg #[.int .i64 di, .int .u64 0, .int .u64 0, .slice none 0 0, .int .i64 dg, .slice a' xs.length c']] W fun e w' => e = .returned (.bool true) ∧ Below W.heap.size W w') := fun W a c a' c' h1 h2 => samePair_eq W di 0 0 dg none none a a' 0 0 c c' [] xs (SeesT_none W _) (SeesT_none W _) h1 h2 (by simp) (by omega)
  have j0 : yd.cell? ⟨Q1, 0, none⟩ = some (.int .i64 di) := HDS.out.q.cell 0
  have j1 : yd.cell? ⟨Q1, 1, none⟩ = some (.int .u64 0) := HDS.out.q.cell 1
  have j2 : yd.cell? ⟨Q1, 2, none⟩ = some (.int .u64 0) := HDS.out.q.cell 2
  have j3 : yd.cell? ⟨Q1, 3, none⟩ = some (.slice none 0 0) := HDS.out.q.cell 3
  have j4 : yd.cell? ⟨Q1, 4, none⟩ = some (.int .i64 dg) := HDS.out.q.cell 4
  have j5 : yd.cell? ⟨Q1, 5, none⟩ = some (.slice aa xs.length ca) := HDS.out.q.cell 5
  have k0 : yd.cell? ⟨Q2, 0, none⟩ = some (.int .i64 di) := HDS.out.q2.cell 0
  have k1 : yd.cell? ⟨Q2, 1, none⟩ = some (.int .u64 0) := HDS.out.q2.cell 1
  have k2 : yd.cell? ⟨Q2, 2, none⟩ = some (.int .u64 0) := HDS.out.q2.cell 2
  have k3 : yd.cell? ⟨Q2, 3, none⟩ = some (.slice none 0 0) := HDS.out.q2.cell 3
  have k4 : yd.cell? ⟨Q2, 4, none⟩ = some (.int .i64 dg) := HDS.out.q2.cell 4
  have k5 : yd.cell? ⟨Q2, 5, none⟩ = some (.slice ab xs.length cb) := HDS.out.q2.cell 5
  have m0 : yd.cell? ⟨R1, 0, none⟩ = some (.int .i64 di) := HDS.out.r.cell 0
  have m1 : yd.cell? ⟨R1, 1, none⟩ = some (.int .u64 0) := HDS.out.r.cell 1
  have m2 : yd.cell? ⟨R1, 2, none⟩ = some (.int .u64 0) := HDS.out.r.cell 2
  have m3 : yd.cell? ⟨R1, 3, none⟩ = some (.slice none 0 0) := HDS.out.r.cell 3
  have m4 : yd.cell? ⟨R1, 4, none⟩ = some (.int .i64 dg) := HDS.out.r.cell 4
  have m5 : yd.cell? ⟨R1, 5, none⟩ = some (.slice ac xs.length cc) := HDS.out.r.cell 5
  go_wp2_with fail
  refine (HSm.out yd _ _ _ _ HDS.out.oa.sees HDS.out.oc.sees).mono ?_
  rintro e we ⟨rfl, hbe⟩
  have HDS2 : Hid _ := HDS.out.later hbe
  clear hbe HDS j0 j1 j2 j3 j4 j5 k0 k1 k2 k3 k4 k5 m0 m1 m2 m3 m4 m5
  have j0 : we.cell? ⟨Q1, 0, none⟩ = some (.int .i64 di) := HDS2.out.q.cell 0
  have j1 : we.cell? ⟨Q1, 1, none⟩ = some (.int .u64 0) := HDS2.out.q.cell 1
  have j2 : we.cell? ⟨Q1, 2, none⟩ = some (.int .u64 0) := HDS2.out.q.cell 2
  have j3 : we.cell? ⟨Q1, 3, none⟩ = some (.slice none 0 0) := HDS2.out.q.cell 3
  have j4 : we.cell? ⟨Q1, 4, none⟩ = some (.int .i64 dg) := HDS2.out.q.cell 4
  have j5 : we.cell? ⟨Q1, 5, none⟩ = some (.slice aa xs.length ca) := HDS2.out.q.cell 5
  have k0 : we.cell? ⟨Q2, 0, none⟩ = some (.int .i64 di) := HDS2.out.q2.cell 0
  have k1 : we.cell? ⟨Q2, 1, none⟩ = some (.int .u64 0) := HDS2.out.q2.cell 1
  have k2 : we.cell? ⟨Q2, 2, none⟩ = some (.int .u64 0) := HDS2.out.q2.cell 2
  have k3 : we.cell? ⟨Q2, 3, none⟩ = some (.slice none 0 0) := HDS2.out.q2.cell 3
  have k4 : we.cell? ⟨Q2, 4, none⟩ = some (.int .i64 dg) := HDS2.out.q2.cell 4
  have k5 : we.cell? ⟨Q2, 5, none⟩ = some (.slice ab xs.length cb) := HDS2.out.q2.cell 5
  have m0 : we.cell? ⟨R1, 0, none⟩ = some (.int .i64 di) := HDS2.out.r.cell 0
  have m1 : we.cell? ⟨R1, 1, none⟩ = some (.int .u64 0) := HDS2.out.r.cell 1
  have m2 : we.cell? ⟨R1, 2, none⟩ = some (.int .u64 0) := HDS2.out.r.cell 2
  have m3 : we.cell? ⟨R1, 3, none⟩ = some (.slice none 0 0) := HDS2.out.r.cell 3
  have m4 : we.cell? ⟨R1, 4, none⟩ = some (.int .i64 dg) := HDS2.out.r.cell 4
  have m5 : we.cell? ⟨R1, 5, none⟩ = some (.slice ac xs.length cc) := HDS2.out.r.cell 5
  go_wp2_with fail
  refine (HSm.out we _ _ _ _ HDS2.out.ob.sees HDS2.out.oc.sees).mono ?_
  rintro e wf ⟨rfl, hbf⟩
  have HDS3 : Hid _ := HDS2.out.later hbf
  clear hbf HDS2 j0 j1 j2 j3 j4 j5 k0 k1 k2 k3 k4 k5 m0 m1 m2 m3 m4 m5
  have j0 : wf.cell? ⟨Q1, 0, none⟩ = some (.int .i64 di) := HDS3.out.q.cell 0
  have j1 : wf.cell? ⟨Q1, 1, none⟩ = some (.int .u64 0) := HDS3.out.q.cell 1
  have j2 : wf.cell? ⟨Q1, 2, none⟩ = some (.int .u64 0) := HDS3.out.q.cell 2
  have j3 : wf.cell? ⟨Q1, 3, none⟩ = some (.slice none 0 0) := HDS3.out.q.cell 3
  have j4 : wf.cell? ⟨Q1, 4, none⟩ = some (.int .i64 dg) := HDS3.out.q.cell 4
  have j5 : wf.cell? ⟨Q1, 5, none⟩ = some (.slice aa xs.length ca) := HDS3.out.q.cell 5
  have k0 : wf.cell? ⟨Q2, 0, none⟩ = some (.int .i64 di) := HDS3.out.q2.cell 0
  have k1 : wf.cell? ⟨Q2, 1, none⟩ = some (.int .u64 0) := HDS3.out.q2.cell 1
  have k2 : wf.cell? ⟨Q2, 2, none⟩ = some (.int .u64 0) := HDS3.out.q2.cell 2
  have k3 : wf.cell? ⟨Q2, 3, none⟩ = some (.slice none 0 0) := HDS3.out.q2.cell 3
  have k4 : wf.cell? ⟨Q2, 4, none⟩ = some (.int .i64 dg) := HDS3.out.q2.cell 4
  have k5 : wf.cell? ⟨Q2, 5, none⟩ = some (.slice ab xs.length cb) := HDS3.out.q2.cell 5
  have m0 : wf.cell? ⟨R1, 0, none⟩ = some (.int .i64 di) := HDS3.out.r.cell 0
  have m1 : wf.cell? ⟨R1, 1, none⟩ = some (.int .u64 0) := HDS3.out.r.cell 1
  have m2 : wf.cell? ⟨R1, 2, none⟩ = some (.int .u64 0) := HDS3.out.r.cell 2
  have m3 : wf.cell? ⟨R1, 3, none⟩ = some (.slice none 0 0) := HDS3.out.r.cell 3
  have m4 : wf.cell? ⟨R1, 4, none⟩ = some (.int .i64 dg) := HDS3.out.r.cell 4
  have m5 : wf.cell? ⟨R1, 5, none⟩ = some (.slice ac xs.length cc) := HDS3.out.r.cell 5
  go_wp2_with fail
  have HMk : Hid (Calls Tryz.prog 12 #[.agg #[.int .i64 di, .int .u64 0, .int .u64 0, .slice none 0 0, .int .i64 dg, .slice aa xs.length ca]] wf fun e w' => e = .returned (.tuple #[]) ∧ Below w.heap.size wf w' ∧ ∀ k, k < wf.heap.size → (Value.slice none 0 0).ownBlock ≠ some k → (Value.slice aa xs.length ca).ownBlock ≠ some k → w'.heap[k]? = wf.heap[k]?) := marked_any wf di 0 0 dg none aa 0 ca [] xs w.heap.size (ownT_none _ _) HDS3.out.oa HDS3.out.bel.size (by simp) dl
  refine HMk.out.mono ?_
  rintro e wg ⟨rfl, hsg, hkg⟩
  have HBG : Hid (Below w.heap.size w wg) := HDS3.out.bel.trans hsg
  have hng := HDS3.out.marked hkg
  have HNG : Hid _ := hng
  clear hng hkg hsg HMk HDS3 j0 j1 j2 j3 j4 j5 k0 k1 k2 k3 k4 k5 m0 m1 m2 m3 m4 m5
  have k0 : wg.cell? ⟨Q2, 0, none⟩ = some (.int .i64 di) := HNG.out.1.cell 0
  have k1 : wg.cell? ⟨Q2, 1, none⟩ = some (.int .u64 0) := HNG.out.1.cell 1
  have k2 : wg.cell? ⟨Q2, 2, none⟩ = some (.int .u64 0) := HNG.out.1.cell 2
  have k3 : wg.cell? ⟨Q2, 3, none⟩ = some (.slice none 0 0) := HNG.out.1.cell 3
  have k4 : wg.cell? ⟨Q2, 4, none⟩ = some (.int .i64 dg) := HNG.out.1.cell 4
  have k5 : wg.cell? ⟨Q2, 5, none⟩ = some (.slice ab xs.length cb) := HNG.out.1.cell 5
  have m0 : wg.cell? ⟨R1, 0, none⟩ = some (.int .i64 di) := HNG.out.2.1.cell 0
  have m1 : wg.cell? ⟨R1, 1, none⟩ = some (.int .u64 0) := HNG.out.2.1.cell 1
  have m2 : wg.cell? ⟨R1, 2, none⟩ = some (.int .u64 0) := HNG.out.2.1.cell 2
  have m3 : wg.cell? ⟨R1, 3, none⟩ = some (.slice none 0 0) := HNG.out.2.1.cell 3
  have m4 : wg.cell? ⟨R1, 4, none⟩ = some (.int .i64 dg) := HNG.out.2.1.cell 4
  have m5 : wg.cell? ⟨R1, 5, none⟩ = some (.slice ac xs.length cc) := HNG.out.2.1.cell 5
  go_wp2_with fail
  refine (HSm.out wg _ _ _ _ HNG.out.2.2.1.sees HNG.out.2.2.2.sees).mono ?_
  rintro e wh ⟨rfl, hbh⟩
  have HBH : Hid (Below w.heap.size w wh) := HBG.out.trans (hbh.mono HBG.out.size)
  clear hbh k0 k1 k2 k3 k4 k5 m0 m1 m2 m3 m4 m5
  go_wp2
  go_ret
  exact ⟨rfl, HBH.out⟩
end Go.Proofs.YtgopplgknplkiaaGreatDoor
