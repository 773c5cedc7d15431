import Derived.Test.YtdpebhdjcgiboaaGreatSn5
import Derived.Test.YtdpebhdjcgiboaaGreatSn4
namespace Go.Proofs.YtdpebhdjcgiboaaGreat
open Go.ChangeShapes Go.WideShapes Go.ChangeAt Go.RowKit Go.MuLone Go.RwLone
set_option linter.unusedVariables false
set_option maxRecDepth 100000
set_option maxHeartbeats 6400000
theorem hev_two (w : World) (F : Nat → Prop) (pt : Nat → Nat) (hb qb : Nat) (qv : Nat → Value) (ev en : Value) (h : Hp) (m : Hm w F pt hb qb qv ev en h) (hl : h.ev.length ≤ 68719476000) :
    Calls Tryz.prog 13 #[.pointer (some ⟨hb, 0, none⟩)] w fun e w' => ∃ v, e = .returned v ∧ OwE w' w.heap.size v h.ev ∧ Keeps (fun _ => False) w w' := by
  obtain ⟨a, cap, rfl⟩ := m.oe.form
  have e2 : w.cell? ⟨hb, 2, none⟩ = some (.slice a h.ev.length cap) := (cell?_heap m.hc 2).trans rfl
  have HC := cloneE w w.heap.size a cap h.ev m.oe.in (Nat.le_refl _) hl
  have HCC : Hid (∀ _ : Unit, _) := fun _ => HC
  clear HC m
  go_enter Tryz.func13, Tryz.ntmps13
  go_wp2_with fail
  refine (HCC.out ()).mono ?_
  rintro e w1 ⟨v, rfl, ho, k⟩
  have HX : Hid (OwE w1 w.heap.size v h.ev ∧ Keeps (fun _ => False) w w1) := ⟨ho, k⟩
  clear ho k e2
  go_wp2
  go_ret
  exact ⟨_, rfl, HX.out⟩
/-- A harness with jobs, all its blocks in U. -/
structure Hj (w : World) (U : Nat → Prop) (M : Mc) (hb qb : Nat) (a : Hp × M.σ) : Prop where
  m : ∃ P qv ev en, Hm w P M.pt hb qb qv ev en a.1 ∧ (∀ y, P y → U y) ∧ (∀ y, P y → ¬ M.F y)
  o : M.ok w a.2
  f : ∀ y, M.F y → U y
  iv : Iv M.N a.1
  gl : ∀ y, U y → y < w.heap.size
section
variable {w w' : World} {U : Nat → Prop} {M : Mc} {hb qb : Nat} {a : Hp × M.σ}
theorem Hj.keeps {D : Nat → Prop} (h : Hj w U M hb qb a) (k : Keeps D w w') (hD : ∀ y, D y → ¬ U y) : Hj w' U M hb qb a := by
  obtain ⟨P, qv, ev, en, m, h1, h2⟩ := h.m
  exact ⟨⟨P, qv, ev, en, m.keeps k (fun x hx hP => hD x hx (h1 x hP)), h1, h2⟩, M.far h.o k (fun x hx e => hD x hx (h.f x e)), h.f, h.iv, fun y hy => Nat.lt_of_lt_of_le (h.gl y hy) k.size⟩
theorem Hj.mid {P P' : Nat → Prop} {qv : Nat → Value} {ev en : Value} {a' : Hp × M.σ} (h : Hj w U M hb qb a) (h1 : ∀ y, P y → U y) (iv : Iv M.N a'.1) (md : Mid M w w' P hb qb P' qv ev en a'.1 a'.2) : Hj w' (fun y => U y ∨ (w.heap.size ≤ y ∧ y < w'.heap.size)) M hb qb a' ∧ Keeps U w w' := by
  have hk := md.k.size
  refine ⟨⟨⟨P', qv, ev, en, md.m, fun y hy => (md.f y hy).elim (fun e => .inl (h1 y e)) (fun e => .inr ⟨e, md.m.lt y hy⟩), md.d⟩, md.o, fun y hy => .inl (h.f y hy), iv, fun y hy => hy.elim (fun e => Nat.lt_of_lt_of_le (h.gl y e) hk) (fun e => e.2)⟩, md.k.mono (fun y e => e.elim (h1 y) (h.f y))⟩
end
theorem hj_play (w : World) (U : Nat → Prop) (M : Mc) (hb qb : Nat) (a : Hp × M.σ) (h : Hj w U M hb qb a) (bd : Nat) (hm : bd ≤ 9223372036854775807) (v : Value) (vs : List (Int × Int × Int)) (hv : PkR w U v vs) :
    Calls Tryz.prog 11 #[.pointer (some ⟨hb, 0, none⟩), .int .i64 (bd : Int), v] w fun e w' => e = .returned (retP (playP M vs bd a).1 (playP M vs bd a).2.1 bd) ∧ Hj w' (fun y => U y ∨ (w.heap.size ≤ y ∧ y < w'.heap.size)) M hb qb (playP M vs bd a).2.2 ∧ Keeps U w w' := by
  obtain ⟨P, qv, ev, en, m, h1, h2⟩ := h.m
  have hv' : PkR w (fun x => P x ∨ M.F x) v vs := by
    obtain ⟨ao, cap, e, l1, l2, l3⟩ := hv
    refine ⟨ao, cap, e, l1, l2, fun i hi => ?_⟩
    obtain ⟨b, off, e1, e2, e3⟩ := l3 i hi
    exact ⟨b, off, e1, fun e => e2 (e.elim (h1 b) (h.f b)), e3⟩
  refine (hplay_any M w P hb qb qv ev en a m h.o h2 h.iv bd hm v vs hv').mono ?_
  rintro e w1 ⟨rfl, iv, P', qv', ev', en', md⟩
  exact ⟨rfl, h.mid (a' := (playP M vs bd a).2.2) h1 iv md⟩
theorem hj_drain (w : World) (U : Nat → Prop) (M : Mc) (hb qb : Nat) (a : Hp × M.σ) (h : Hj w U M hb qb a) (bd : Nat) (hm : bd ≤ 9223372036854775807) :
    Calls Tryz.prog 15 #[.pointer (some ⟨hb, 0, none⟩), .int .i64 (bd : Int)] w fun e w' => e = .returned (retP (playP M [(6, 0, 0)] bd a).1 (playP M [(6, 0, 0)] bd a).2.1 bd) ∧ Hj w' (fun y => U y ∨ (w.heap.size ≤ y ∧ y < w'.heap.size)) M hb qb (playP M [(6, 0, 0)] bd a).2.2 ∧ Keeps U w w' := by
  obtain ⟨P, qv, ev, en, m, h1, h2⟩ := h.m
  refine (hdrain_any M w P hb qb qv ev en a m h.o h2 h.iv bd hm).mono ?_
  rintro e w1 ⟨rfl, iv, P', qv', ev', en', md⟩
  exact ⟨rfl, h.mid (a' := (playP M [(6, 0, 0)] bd a).2.2) h1 iv md⟩
/-- What `laid` leaves. -/
theorem Lj.hj {w w' : World} {W : Nat} {js : List (Int × Int × Int)} {K hb qb : Nat} {J : Nat → Bd} (h : Lj w w' W js K hb qb J) (hw : ∀ k, k < K → whoJ js W k < W) (hK : K ≤ 64) : Hj w' (fun y => w.heap.size ≤ y ∧ y < w'.heap.size) (mcJ J K h.j) hb qb (hJ (whoJ js W) (tagJ js) W K, fun _ => sJ) := by
  obtain ⟨P, qv, ev, en, m, h1, h2⟩ := h.m
  refine ⟨⟨P, qv, ev, en, m, fun y hy => ⟨h1 y hy, m.lt y hy⟩, fun y hy e => ?_⟩, h.o, fun y hy => ?_, hJ_iv _ _ _ _ hw hK, fun y hy => hy.2⟩
  · obtain ⟨k, hk, e⟩ := e
    exact h2 k hk y e hy
  · obtain ⟨k, hk, e⟩ := hy
    exact ⟨h.f k hk y e, (h.o k hk).lt e⟩
theorem Lj.gd {w w' : World} {W : Nat} {js : List (Int × Int × Int)} {K hb qb : Nat} {J : Nat → Bd} (h : Lj w w' W js K hb qb J) (hw : ∀ k, k < K → whoJ js W k < W) : Gd (mcJ J K h.j) (lnJ J) (tagJ js) (whoJ js W) plJ W K (totJ (lenJ js) K) (hJ (whoJ js W) (tagJ js) W K, fun _ => sJ) := by
  have e : totJ (lnJ J) K = totJ (lenJ js) K := by
    unfold totJ
    congr 1
    exact List.map_congr_left (fun k hk => by rw [h.l k (List.mem_range.1 hk)])
  rw [← e]
  exact hJ_gd J K h.j _ _ W _ hw (fun k _ => rfl)
theorem totJ_le (ln : Nat → Nat) (h : ∀ k, ln k ≤ 10) : ∀ i, totJ ln i ≤ 10 * i
  | 0 => by simp [totJ]
  | i + 1 => by
    have := totJ_le ln h i
    have := h i
    rw [totJ_succ]
    omega
theorem pairs_congr {l1 l2 : Nat → Nat} {tag : Nat → Int} {w : Int} : ∀ {ls : List Nat} {es : List Ev}, (∀ k ∈ ls, l1 k = l2 k) → Pairs l1 tag w ls es → Pairs l2 tag w ls es
  | [], es, _, h => h
  | k :: ls, es, hl, h => by
    obtain ⟨c, d, es', e, hd, h'⟩ := h
    refine ⟨c, d, es', e, by rw [← hl k (List.mem_cons_self ..)]; exact hd, pairs_congr (fun j hj => hl j (List.mem_cons_of_mem _ hj)) h'⟩
end Go.Proofs.YtdpebhdjcgiboaaGreat
