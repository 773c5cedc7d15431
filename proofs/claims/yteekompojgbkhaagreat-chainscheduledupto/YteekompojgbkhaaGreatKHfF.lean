import Derived.Test.YteekompojgbkhaaGreatKHfE
import Derived.Test.YteekompojgbkhaaGreatKReF
namespace Go.Proofs.YteekompojgbkhaaGreat
set_option linter.unusedSimpArgs false
open Go.ChangeShapes Go.WideShapes Go.ChangeAt Go.RowKit Go.MuLone Go.RwLone
set_option linter.unusedVariables false
set_option maxRecDepth 100000
set_option maxHeartbeats 3200000
theorem cell_lt {w : World} {g j : Nat} {v : Value} (h : w.cell? ⟨g, j, none⟩ = some v) : g < w.heap.size := by
  rcases Nat.lt_or_ge g w.heap.size with h1 | h1
  · exact h1
  · unfold World.cell? at h
    rw [Array.getElem?_eq_none h1] at h
    simp at h
/-- A row is added to, in its block or in a new one. -/
theorem Hm.push {w w1 : World} {F : Nat → Prop} {pt : Nat → Nat} {hb qb : Nat} {qv : Nat → Value} {ev en : Value} {h : Hp} {b mm cap i : Nat} {l : List Pq} (m : Hm w F pt hb qb qv ev en h) (hi : i < h.q.length) (k : Keeps (fun g => (qv i).ownBlock = some g) w w1) (ho : OwP pt w1 (.slice (some ⟨b, 0, none⟩) mm cap) l) (hb' : (qv i).ownBlock = some b ∨ w.heap.size ≤ b) (hl : b < w1.heap.size) :
    Hm (w1.setCell ⟨qb, i, none⟩ (.slice (some ⟨b, 0, none⟩) mm cap)) (fun x => F x ∨ x = b) pt hb qb (upd qv i (.slice (some ⟨b, 0, none⟩) mm cap)) ev en { h with q := h.q.set i l } := by
  have hv : (Value.slice (some ⟨b, 0, none⟩) mm cap).ownBlock = some b := rfl
  generalize Value.slice (some ⟨b, 0, none⟩) mm cap = v at *
  have hq := m.lt _ m.fq
  have hh := m.lt _ m.fh
  have rr := m.rows i hi
  obtain ⟨c, hc⟩ := m.qt
  have k2 : Keeps (fun g => g = qb) w1 (w1.setCell ⟨qb, i, none⟩ v) := Keeps.setCell (B := fun g => g = qb) (Keeps.refl _ _) rfl _
  have kk : Keeps (fun g => (qv i).ownBlock = some g ∨ g = qb) w (w1.setCell ⟨qb, i, none⟩ v) := (k.mono (fun _ e => .inl e)).trans (k2.mono (fun _ e => .inr e))
  have e1 : w1.heap[qb]? = _ := (k.block qb hq (fun e => (rr qb e).2.1 rfl)).trans hc
  have ec : ∀ j, w1.cell? ⟨qb, j, none⟩ = w.cell? ⟨qb, j, none⟩ := fun j => k.cell (p := ⟨qb, j, none⟩) hq (fun e => (rr qb e).2.1 rfl)
  have lo : ∀ j g, j < h.q.length → (qv j).ownBlock = some g → g < w.heap.size := fun j g hj hg => m.lt _ (m.fr j g hj hg)
  have nq : b ≠ qb := by
    rcases hb' with e | e
    · exact (rr b e).2.1
    · omega
  have ap : ∀ j, j < h.q.length → j ≠ i → (qv j).ownBlock = some b → False := fun j hj hn hg => by
    rcases hb' with e | e
    · exact m.qa j i b hj hi hn hg e
    · have := lo j b hj hg; omega
  refine ⟨?_, ⟨_, heapSet e1 _⟩, fun j hj => ?_, fun j hj => ?_, fun j j' g hj hj' hn h1 h2 => ?_, owK m.oe kk (fun g hg e => e.elim (fun e => (rr g e).2.2.1 hg) (fun e => (m.evs g hg).2.1 e)), owK m.ot kk (fun g hg e => e.elim (fun e => (rr g e).2.2.2 hg) (fun e => (m.ens g hg).2 e)), .inl m.fh, .inl m.fq, fun j g hj hg => ?_, fun g hg => .inl (m.fe g hg), fun g hg => .inl (m.fn g hg), fun x hx => ?_, by simpa using m.n16⟩
  · rw [List.length_set]
    exact (kk.block hb hh (fun e => e.elim (fun e => (rr hb e).1 rfl) (fun e => m.hq e))).trans m.hc
  · rw [List.length_set] at hj
    by_cases e : j = i
    · subst e; rw [upd_same]
      exact World.cell?_setCell_same _ _ _ ((ec j).trans (m.qc j hj))
    · rw [upd_other _ _ e, World.cell?_setCell_other _ _ _ _ (fun e' => e (congrArg Addr.off e').symm), ec]
      exact m.qc j hj
  · have hj2 : j < h.q.length := by simpa using hj
    by_cases e : j = i
    · subst e
      simp only [List.getElem_set_self]
      rw [upd_same]
      refine owK ho k2 (fun g hg e => nq ?_)
      rw [hv] at hg
      exact (Option.some.inj hg).trans e
    · simp only [List.getElem_set_ne (fun e' => e e'.symm)]
      rw [upd_other _ _ e]
      exact owK (m.ql j hj2) kk (fun g hg e' => e'.elim (fun e' => m.qa j i g hj2 hi e hg e') (fun e' => (m.rows j hj2 g hg).2.1 e'))
  · rw [List.length_set] at hj hj'
    by_cases e : j = i
    · subst e
      rw [upd_same, hv] at h1
      rw [upd_other _ _ (fun e => hn e.symm), ← Option.some.inj h1] at h2
      exact ap j' hj' (fun e => hn e.symm) h2
    · by_cases e' : j' = i
      · subst e'
        rw [upd_same, hv] at h2
        rw [upd_other _ _ e, ← Option.some.inj h2] at h1
        exact ap j hj e h1
      · rw [upd_other _ _ e] at h1
        rw [upd_other _ _ e'] at h2
        exact m.qa j j' g hj hj' hn h1 h2
  · rw [List.length_set] at hj
    by_cases e : j = i
    · subst e
      rw [upd_same, hv] at hg
      exact .inr (Option.some.inj hg).symm
    · rw [upd_other _ _ e] at hg
      exact .inl (m.fr j g hj hg)
  · have := kk.size
    rcases hx with hx | hx
    · have := m.lt x hx
      omega
    · rw [hx]; simpa using hl
/-- The places that Submit puts, the first t of them. -/
def plS (tg : Int) (ms : List Nat) (t : Nat) : List Pq := (List.range t).map (fun k => (ms.getD k 0, IntKind.i64.wrap (tg + (k : Int)), false))
theorem plS_len (tg : Int) (ms : List Nat) (t : Nat) : (plS tg ms t).length = t := by simp [plS]
theorem plS_succ (tg : Int) (ms : List Nat) (t : Nat) : plS tg ms (t + 1) = plS tg ms t ++ [(ms.getD t 0, IntKind.i64.wrap (tg + (t : Int)), false)] := by
  unfold plS
  rw [List.range_succ, List.map_append]
  rfl
/-- What Submit does. -/
def subP (h : Hp) (x tg : Int) (ms : List Nat) : Int × Hp :=
  if 0 ≤ x ∧ x < (h.q.length : Int) then (if 64 < ((h.q[x.toNat]?).getD []).length + ms.length then (32, h) else (0, { h with q := h.q.set x.toNat ((h.q[x.toNat]?).getD [] ++ plS tg ms ms.length) })) else (31, h)
theorem infoPlT : (Tryz.prog.info? 101).map (fun i => (i.zero, i.size, i.bytes)) = some (some (.agg #[.pointer none, .int .i64 0, .bool false]), 3, 24) := by kernel_rfl
/-- The program's Submit. -/
theorem hsubmit (w : World) (F : Nat → Prop) (pt : Nat → Nat) (hb qb : Nat) (qv : Nat → Value) (ev en : Value) (h : Hp) (m : Hm w F pt hb qb qv ev en h) (x tg : Int) (ma : Option Addr) (mc : Nat) (ms : List Nat)
    (hms : ∀ k (hk : k < ms.length), ∃ b off, ma = some ⟨b, off, none⟩ ∧ ¬ F b ∧ w.cell? ⟨b, off + k, none⟩ = some (.pointer (some ⟨pt ms[k], 0, none⟩))) (hl : ms.length ≤ 1099511627776) :
    Calls Tryz.prog 24 #[.pointer (some ⟨hb, 0, none⟩), .int .i64 x, .int .i64 tg, .slice ma ms.length mc] w fun e w' => e = .returned (.int .i64 (subP h x tg ms).1) ∧ ∃ F' qv', Hm w' F' pt hb qb qv' ev en (subP h x tg ms).2 ∧ (∀ y, F' y → F y ∨ w.heap.size ≤ y) ∧ Keeps F w w' := by
  have HM : Hid (Hm w F pt hb qb qv ev en h) := m
  have ch : w.cell? ⟨hb, 0, none⟩ = some (.slice (some ⟨qb, 0, none⟩) h.q.length h.q.length) := (cell?_heap m.hc 0).trans rfl
  have hwk := hhas_any w hb h.q.length (some ⟨qb, 0, none⟩) h.q.length x ch
  by_cases hx : 0 ≤ x ∧ x < (h.q.length : Int)
  · have hdec : decide (0 ≤ x ∧ x < (h.q.length : Int)) = true := decide_eq_true hx
    rw [hdec] at hwk
    obtain ⟨i, rfl⟩ : ∃ i : Nat, x = (i : Int) := ⟨x.toNat, by omega⟩
    have hi : i < h.q.length := by omega
    have hqi : (h.q[i]?).getD [] = h.q[i] := by rw [List.getElem?_eq_getElem hi]; rfl
    have hsub : subP h (i : Int) tg ms = (if 64 < h.q[i].length + ms.length then (32, h) else (0, { h with q := h.q.set i (h.q[i] ++ plS tg ms ms.length) })) := by
      unfold subP
      rw [if_pos hx, Int.toNat_natCast, hqi]
    obtain ⟨ra, rc, hra⟩ := (m.ql i hi).form
    have cr : w.cell? ⟨qb, i, none⟩ = some (.slice ra h.q[i].length rc) := by rw [← hra]; exact m.qc i hi
    have HWK : Hid (∀ _ : Unit, _) := fun _ => hwk
    have i0 : (0 : Int) ≤ (i : Int) := Int.natCast_nonneg _
    have i1 : (i : Int) < (h.q.length : Int) := by omega
    obtain ⟨lq, hlq⟩ : ∃ lq, h.q[i].length = lq := ⟨_, rfl⟩
    obtain ⟨n, hn⟩ : ∃ n, h.q.length = n := ⟨_, rfl⟩
    rw [hlq] at cr hsub
    rw [hn] at ch i1
    have HMS : Hid (∀ k (hk : k < ms.length), ∃ b off, ma = some ⟨b, off, none⟩ ∧ ¬ F b ∧ w.cell? ⟨b, off + k, none⟩ = some (.pointer (some ⟨pt ms[k], 0, none⟩))) := hms
    have HSB : Hid (subP h (i : Int) tg ms = (if 64 < lq + ms.length then (32, h) else (0, { h with q := h.q.set i (h.q[i] ++ plS tg ms ms.length) })) ∧ h.q[i].length = lq ∧ h.q.length = n) := ⟨hsub, hlq, hn⟩
    have hlq9 : lq ≤ 9223372036854775807 := by
      rw [← hlq]
      by_cases hz : h.q[i] = []
      · rw [hz]; simp
      · have ho := m.ql i hi
        obtain ⟨g, cap, e, _, _⟩ := owG_some ho hz
        rw [e] at ho
        have := owG_cap ho
        omega
    clear m hwk hdec hx hsub hms hqi hra
    by_cases h64 : 64 < lq + ms.length
    · have g1 : (ms.length : Int) > 64 - (lq : Int) := by omega
      have w1 : IntKind.i64.wrap (64 - (lq : Int)) = 64 - (lq : Int) := by rw [IntKind.wrap_i64]; omega
      go_enter Tryz.func24, Tryz.ntmps24
      go_wp2_with fail
      refine (HWK.out ()).mono ?_
      rintro e w' ⟨rfl, rfl⟩
      go_wp2
      go_ret
      rw [HSB.out.1, if_pos h64]
      exact ⟨rfl, F, qv, HM.out, fun y hy => .inl hy, Keeps.refl _ _⟩
    · have g1 : ¬ (ms.length : Int) > 64 - (lq : Int) := by omega
      have w1 : IntKind.i64.wrap (64 - (lq : Int)) = 64 - (lq : Int) := by rw [IntKind.wrap_i64]; omega
      have HS0 : Hid (∃ F' qv', Hm w F' pt hb qb qv' ev en { h with q := h.q.set i (h.q[i]'(by have := HSB.out.2.2; omega) ++ plS tg ms 0) } ∧ (∀ y, F' y → F y ∨ w.heap.size ≤ y) ∧ Keeps F w w) := ⟨F, qv, by
        have : h.q.set i (h.q[i]'(by have := HSB.out.2.2; omega) ++ plS tg ms 0) = h.q := by simp [plS]
        rw [this]
        exact HM.out, fun y hy => .inl hy, Keeps.refl _ _⟩
      go_enter Tryz.func24, Tryz.ntmps24
      go_wp2_with fail
      refine (HWK.out ()).mono ?_
      rintro e w' ⟨rfl, rfl⟩
      go_wp2_with fail
      have HC0 : Hid (n ≤ 16 ∧ hb ≠ qb) := ⟨by have := HM.out.n16; have := HSB.out.2.2; omega, HM.out.hq⟩
      clear ch cr g1 w1
      go_loopw [31] (fun c wr => ∃ (t : Nat) (F' : Nat → Prop) (qv' : Nat → Value) (hq : i < h.q.length), c = .int .i64 t ∧ t ≤ ms.length ∧ Hm wr F' pt hb qb qv' ev en { h with q := h.q.set i (h.q[i] ++ plS tg ms t) } ∧ (∀ y, F' y → F y ∨ w'.heap.size ≤ y) ∧ Keeps F w' wr) (fun c _ => ms.length - (intOf c).toNat)
      case atStart =>
        obtain ⟨F', qv', a1, a2, a3⟩ := HS0.out
        exact ⟨0, F', qv', by have := HSB.out.2.2; omega, rfl, by omega, a1, a2, a3⟩
      case round =>
        obtain ⟨t, F', qv', hqi, rfl, ht, hm, hf, hk⟩ := hrel
        obtain ⟨xs, hxs⟩ : ∃ xs, xs = h.q[i] ++ plS tg ms t := ⟨_, rfl⟩
        have hxl : xs.length = lq + t := by rw [hxs, List.length_append, plS_len, HSB.out.2.1]
        rw [← hxs] at hm
        have HQ : Hid (Hm wr.drew F' pt hb qb qv' ev en { h with q := h.q.set i xs } ∧ (∀ y, F' y → F y ∨ w'.heap.size ≤ y) ∧ Keeps F w' wr ∧ xs = h.q[i] ++ plS tg ms t ∧ Hm wr F' pt hb qb qv' ev en { h with q := h.q.set i xs }) := ⟨hm.still (Keeps.refl _ _).drew, hf, hk, hxs, hm⟩
        by_cases h5 : t < ms.length
        · have t0 : (0 : Int) ≤ (t : Int) := Int.natCast_nonneg _
          have t1 : (t : Int) < (ms.length : Int) := by omega
          have hsl : (h.q.set i xs).length = n := by rw [List.length_set]; exact HSB.out.2.2
          have ch : wr.cell? ⟨hb, 0, none⟩ = some (.slice (some ⟨qb, 0, none⟩) n n) := by
            have := (cell?_heap hm.hc 0).trans rfl
            rw [← hsl]
            exact this
          have hi2 : i < (h.q.set i xs).length := by omega
          have hrow := hm.ql i hi2
          have hcell := hm.qc i hi2
          simp only [List.getElem_set_self] at hrow
          obtain ⟨ra', rc', hra'⟩ := hrow.form
          rw [hra'] at hrow hcell
          have lh := hm.lt _ hm.fh
          have lq' := hm.lt _ hm.fq
          obtain ⟨c9, hq9⟩ := hm.qt
          have fz := frozen?_heap hq9 i
          obtain ⟨gb, off, rfl, hnF, hcm⟩ := HMS.out t h5
          have hcm2 : wr.cell? ⟨gb, off + t, none⟩ = some (.pointer (some ⟨pt ms[t], 0, none⟩)) := (hk.cell (p := ⟨gb, off + t, none⟩) (cell_lt hcm) hnF).trans hcm
          have HV : Hid (qv' i = .slice ra' xs.length rc' ∧ plS tg ms (t + 1) = plS tg ms t ++ [(ms[t], IntKind.i64.wrap (tg + (t : Int)), false)]) := ⟨hra', by rw [plS_succ]; simp [List.getD, List.getElem?_eq_getElem h5]⟩
          obtain ⟨mt, hmt⟩ : ∃ mt, ms[t] = mt := ⟨_, rfl⟩
          have HMT : Hid (ms[t] = mt) := hmt
          rw [hmt] at hcm2
          have HOW : Hid (OwG (plM pt) 101 3 wr.drew 0 (.slice ra' xs.length rc') xs) := owK hrow (Keeps.refl (fun _ => False) _).drew (fun _ _ e => e)
          have HS : Hid (wr.drew.cell? ⟨hb, 0, none⟩ = some (.slice (some ⟨qb, 0, none⟩) n n)) := ch
          have HA : Hid (∀ o : Obj, (wr.drew.alloc o).cell? ⟨hb, 0, none⟩ = some (.slice (some ⟨qb, 0, none⟩) n n)) := fun o => (World.cell?_of_block (w := wr) (Below.heap_alloc wr.drew o hb lh)).trans ch
          obtain ⟨tk, htk⟩ : ∃ tk, IntKind.i64.wrap (tg + (t : Int)) = tk := ⟨_, rfl⟩
          have HTK : Hid (IntKind.i64.wrap (tg + (t : Int)) = tk) := htk
          have cE : wr.drew.cell? ⟨qb, i, none⟩ = some (.slice ra' xs.length rc') := hcell
          have cE2 : (wr.drew.alloc (.cells #[.pointer (some ⟨pt mt, 0, none⟩), .int .i64 tk, .bool false] 101)).cell? ⟨qb, i, none⟩ = some (.slice ra' xs.length rc') := (World.cell?_of_block (w := wr) (Below.heap_alloc wr.drew _ qb lq')).trans hcell
          have cE3 : (wr.alloc (.cells #[.pointer (some ⟨pt mt, 0, none⟩), .int .i64 tk, .bool false] 101)).cell? ⟨qb, i, none⟩ = some (.slice ra' xs.length rc') := cE2
          have hxb : xs.length ≤ 64 := by omega
          clear hm hf hk hxs hrow hcell hra' hcm hmt ch hsl hi2 fz hq9 hxl
          go_wp2_with fail
          (refine wp_region_held_drew (S := (fun W => W.cell? ⟨hb, 0, none⟩ = some (.slice (some ⟨qb, 0, none⟩) n n))) (by kernel_rfl) HS.out (fun hHeld => ?_); simp only [List.size_toArray, List.length_cons, List.length_nil, Nat.reduceAdd, Array.replicate_succ, Array.replicate_zero, List.push_toArray, List.append_toArray, List.nil_append, List.cons_append])
          refine rgT 0 (h := ?_)
          refine rgT 1 (h := ?_)
          refine rgT 2 (h := ?_)
          refine rgT 3 (h := ?_)
          refine rgT 4 (h := ?_)
          refine rgT 5 (h := ?_)
          refine rgT 6 (h := ?_)
          refine rgT 7 (h := ?_)
          refine rgT 8 (h := ?_)
          refine rgT 9 (h := ?_)
          refine rgT 10 (h := ?_)
          refine rgT 12 (h := ?_)
          refine rgT 13 (h := ?_)
          refine rgT 14 (h := ?_)
          refine rgT 15 (h := ?_)
          refine rgT 16 (h := ?_)
          (refine wpAnyH_ready (rs := [11, 17]) (by kernel_rfl) (by simp) ?_; refine rgA 11 (by rfl) (fun K hK => ?_) (rgA 17 (by rfl) (fun K hK => ?_) AllReadyH.nil) <;> go_simp)
          (refine hK.out _ _ HS.out (fun hHeld => ?_); clear hK K; try simp only [Act.put, List.setIfInBounds_toArray, List.set_cons_zero, List.set_cons_succ])
          (refine rgS 17 (h := fun K hK => ?_); go_simp)
          (refine hK.out _ _ (HA.out _) (fun hHeld => ?_); clear hK K; try simp only [Act.put, List.setIfInBounds_toArray, List.set_cons_zero, List.set_cons_succ])
          rotate_left 1
          (refine hK.out _ _ (HA.out _) (fun hHeld => ?_); clear hK K; try simp only [Act.put, List.setIfInBounds_toArray, List.set_cons_zero, List.set_cons_succ])
          (refine rgS 11 (h := fun K hK => ?_); go_simp)
          (refine hK.out _ _ (HA.out _) (fun hHeld => ?_); clear hK K; try simp only [Act.put, List.setIfInBounds_toArray, List.set_cons_zero, List.set_cons_succ])
          all_goals
            clear cE cE2 cE3
            (refine rgS 18 (h := fun K hK => ?_); rw [if_pos (by rfl)])
            refine app_lies_wp (cs := plM pt) (wr := wr.drew) (.tmp 47) (.tmp 53) 99 101 (by rfl) Tryz.underlying99 infoPlT rfl (by decide) (fun _ => rfl) (.slice ra' xs.length rc') xs (mt, tk, false) HOW.out (by rfl) wr.heap.size rfl (by rfl) (plM_one _ _) _ rfl (by unfold maxLen; omega) (by omega) ?_
            intro b c5 w5 ho k5 hb5 hl5
            have hi3 : i < ({ h with q := h.q.set i xs } : Hp).q.length := by show i < (h.q.set i xs).length; rw [List.length_set]; exact hqi
            have hmw := HQ.out.1
            have rr := hmw.rows i hi3
            rw [HV.out.1] at rr
            have m6 := hmw.push (i := i) (l := xs ++ [(mt, tk, false)]) hi3 (by rw [HV.out.1]; exact k5) ho (by rw [HV.out.1]; exact hb5) hl5
            have s5 : w5.cell? ⟨hb, 0, none⟩ = some (.slice (some ⟨qb, 0, none⟩) n n) := (k5.cell (p := ⟨hb, 0, none⟩) lh (fun e => (rr hb e).1 rfl)).trans HS.out
            have cr5 : w5.cell? ⟨qb, i, none⟩ = some (.slice ra' xs.length rc') := by
              rw [k5.cell (p := ⟨qb, i, none⟩) lq' (fun e => (rr qb e).2.1 rfl), ← HV.out.1]
              exact hmw.qc i hi3
            obtain ⟨c9, hq9⟩ := hmw.qt
            have fr5 : w5.frozen? ⟨qb, i, none⟩ = false := (k5.frozen (p := ⟨qb, i, none⟩) lq' (fun e => (rr qb e).2.1 rfl)).trans (frozen?_heap hq9 i)
            have s6 : (w5.setCell ⟨qb, i, none⟩ (.slice (some ⟨b, 0, none⟩) (xs.length + 1) c5)).cell? ⟨hb, 0, none⟩ = some (.slice (some ⟨qb, 0, none⟩) n n) := (World.cell?_setCell_other _ _ _ _ (fun e => HC0.out.2 (congrArg Addr.block e).symm)).trans s5
            have HN : Hid (∃ F'' qv'', Hm (w5.setCell ⟨qb, i, none⟩ (.slice (some ⟨b, 0, none⟩) (xs.length + 1) c5)) F'' pt hb qb qv'' ev en { h with q := h.q.set i (h.q[i] ++ plS tg ms (t + 1)) } ∧ (∀ y, F'' y → F y ∨ w'.heap.size ≤ y) ∧ Keeps F w' (w5.setCell ⟨qb, i, none⟩ (.slice (some ⟨b, 0, none⟩) (xs.length + 1) c5))) := by
              have hks := HQ.out.2.2.1.size
              have hs : wr.drew.heap.size = wr.heap.size := rfl
              refine ⟨fun x => F' x ∨ x = b, upd qv' i (.slice (some ⟨b, 0, none⟩) (xs.length + 1) c5), ?_, fun y hy => ?_, ?_⟩
              · have e : h.q.set i (h.q[i] ++ plS tg ms (t + 1)) = (h.q.set i xs).set i (xs ++ [(mt, tk, false)]) := by
                  rw [List.set_set, HV.out.2, HMT.out, HTK.out, HQ.out.2.2.2.1, List.append_assoc]
                rw [e]
                exact m6
              · rcases hy with hy | hy
                · exact HQ.out.2.1 y hy
                · rcases hb5 with e | e
                  · exact HQ.out.2.1 y (by rw [hy]; exact hmw.fr i b hi3 (by rw [HV.out.1]; exact e))
                  · right; omega
              · have kq : Keeps (fun x => F x ∨ w'.heap.size ≤ x) w' (w5.setCell ⟨qb, i, none⟩ (.slice (some ⟨b, 0, none⟩) (xs.length + 1) c5)) := (((HQ.out.2.2.1.mono (fun _ e => .inl e)).drew.trans (k5.mono (fun x e => HQ.out.2.1 x (hmw.fr i x hi3 (by rw [HV.out.1]; exact e))))).setCell (p := ⟨qb, i, none⟩) (HQ.out.2.1 qb hmw.fq) _)
                exact kq.thin
            clear ho k5 hb5 hl5 m6 hmw rr hq9
            (refine hK.out _ _ s5 (fun hHeld => ?_); clear hK K; try simp only [Act.put, List.setIfInBounds_toArray, List.set_cons_zero, List.set_cons_succ])
            refine rgT 19 (h := ?_)
            (refine rgS 20 (h := fun K hK => ?_); go_simp)
            (refine hK.out _ _ s6 (fun hHeld => ?_); clear hK K; try simp only [Act.put, List.setIfInBounds_toArray, List.set_cons_zero, List.set_cons_succ])
            refine wpAnyH_done (by kernel_rfl) ?_ _
            clear s5 s6 cr5 fr5
            go_wp2
            go_roundw
            case rel =>
              obtain ⟨F'', qv'', a1, a2, a3⟩ := HN.out
              exact ⟨t + 1, F'', qv'', hqi, by go_num, by omega, a1, a2, a3⟩
            case measure => simp [intOf]; omega
        · have hte : t = ms.length := by omega
          subst hte
          have HX : Hid (Hm wr F' pt hb qb qv' ev en { h with q := h.q.set i (h.q[i] ++ plS tg ms ms.length) } ∧ (∀ y, F' y → F y ∨ w'.heap.size ≤ y) ∧ Keeps F w' wr) := ⟨by have := HQ.out.2.2.2.2; rw [HQ.out.2.2.2.1] at this; exact this, HQ.out.2.1, HQ.out.2.2.1⟩
          clear hm hf hk hxs hxl HQ
          go_wp2
          go_ret
          rw [HSB.out.1, if_neg h64]
          exact ⟨rfl, F', qv', HX.out⟩
  · have hdec : decide (0 ≤ x ∧ x < (h.q.length : Int)) = false := decide_eq_false hx
    rw [hdec] at hwk
    have HWK : Hid (∀ _ : Unit, _) := fun _ => hwk
    have hsub : subP h x tg ms = (31, h) := by unfold subP; rw [if_neg hx]
    rw [hsub]
    clear m hwk hdec hms ch hsub
    go_enter Tryz.func24, Tryz.ntmps24
    go_wp2_with fail
    refine (HWK.out ()).mono ?_
    rintro e w' ⟨rfl, rfl⟩
    go_wp2
    go_ret
    exact ⟨rfl, F, qv, HM.out, fun y hy => .inl hy, Keeps.refl _ _⟩
end Go.Proofs.YteekompojgbkhaaGreat
