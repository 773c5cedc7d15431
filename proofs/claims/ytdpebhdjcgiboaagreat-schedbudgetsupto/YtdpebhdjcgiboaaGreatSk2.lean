import Derived.Test.YtdpebhdjcgiboaaGreatSi1
import Derived.Laws.StructEq
namespace Go.Proofs.YtdpebhdjcgiboaaGreat
set_option linter.unusedSimpArgs false
open Go.ChangeShapes Go.WideShapes Go.ChangeAt Go.RowKit Go.MuLone Go.RwLone
set_option linter.unusedVariables false
set_option maxRecDepth 100000
set_option maxHeartbeats 3200000
abbrev Ev4 := Int × Int × Int × Int
theorem ev_one (x : Ev4) : ∀ u ∈ evC x, u.oneCell' = true := by
  intro u hu
  simp [evC] at hu
  rcases hu with rfl | rfl | rfl | rfl <;> rfl
theorem infoEv4 : (Tryz.prog.info? 36).map (fun i => (i.zero, i.size, i.bytes)) = some (some (.agg #[.int .i64 0, .int .i64 0, .int .i64 0, .int .i64 0]), 4, 32) := by kernel_rfl
/-- Two lists of events that are the same. -/
theorem sameE (w : World) (C : Nat) (hC : C ≤ w.heap.size) (a1 : Option Addr) (c1 : Nat) (a2 : Option Addr) (c2 : Nat) (xs : List Ev4) (h1 : InG evC w C (.slice a1 xs.length c1) xs) (h2 : InG evC w C (.slice a2 xs.length c2) xs) (hn : xs.length ≤ 140737488355328) :
    Calls Tryz.prog 14 #[.slice a1 xs.length c1, .slice a2 xs.length c2] w fun e w' => e = .returned (.bool true) ∧ Keeps (fun _ => False) w w' := by
  have H : Hid (∀ W, Keeps (fun _ => False) w W → InG evC W C (.slice a1 xs.length c1) xs ∧ InG evC W C (.slice a2 xs.length c2) xs) := fun W k => ⟨h1.later (k.below hC (fun _ _ e => e)), h2.later (k.below hC (fun _ _ e => e))⟩
  clear h1 h2
  go_enter Tryz.func14, Tryz.ntmps14
  go_wp2_with fail
  go_loopw [5] (fun c wr => ∃ t : Nat, c = .int .i64 t ∧ t ≤ xs.length ∧ Keeps (fun _ => False) w wr) (fun c _ => xs.length - (intOf c).toNat)
  case atStart => exact ⟨0, rfl, by omega, Keeps.refl _ _⟩
  case round =>
    obtain ⟨t, rfl, ht, hk⟩ := hrel
    have HK : Hid (Keeps (fun _ => False) w wr) := hk
    clear hk
    by_cases h5 : t < xs.length
    · have t0 : (0 : Int) ≤ (t : Int) := Int.natCast_nonneg _
      have t1 : (t : Int) < (xs.length : Int) := by omega
      obtain ⟨b1, o1, rfl, -, q1⟩ := InG.cell (cs := evC) (n := 4) (fun _ => rfl) (H.out wr HK.out).1 t h5 (by decide)
      obtain ⟨b2, o2, rfl, -, q2⟩ := InG.cell (cs := evC) (n := 4) (fun _ => rfl) (H.out wr HK.out).2 t h5 (by decide)
      have HN : Hid (Keeps (fun _ => False) w wr.drew) := HK.out.drew
      generalize xs[t] = x at *
      obtain ⟨x0, x1, x2, x3⟩ := x
      have p0 : wr.cell? ⟨b1, o1 + t * 4, none⟩ = some (.int .i64 x0) := q1 0 (by decide)
      have p1 : wr.cell? ⟨b1, o1 + t * 4 + 1, none⟩ = some (.int .i64 x1) := q1 1 (by decide)
      have p2 : wr.cell? ⟨b1, o1 + t * 4 + 2, none⟩ = some (.int .i64 x2) := q1 2 (by decide)
      have p3 : wr.cell? ⟨b1, o1 + t * 4 + 3, none⟩ = some (.int .i64 x3) := q1 3 (by decide)
      have s0 : wr.cell? ⟨b2, o2 + t * 4, none⟩ = some (.int .i64 x0) := q2 0 (by decide)
      have s1 : wr.cell? ⟨b2, o2 + t * 4 + 1, none⟩ = some (.int .i64 x1) := q2 1 (by decide)
      have s2 : wr.cell? ⟨b2, o2 + t * 4 + 2, none⟩ = some (.int .i64 x2) := q2 2 (by decide)
      have s3 : wr.cell? ⟨b2, o2 + t * 4 + 3, none⟩ = some (.int .i64 x3) := q2 3 (by decide)
      clear q1 q2
      go_wp2_with fail
      (refine wp_region_held_drew (S := (fun W => W.cell? ⟨b1, o1 + t * 4, none⟩ = some (.int .i64 x0) ∧ W.cell? ⟨b1, o1 + t * 4 + 1, none⟩ = some (.int .i64 x1) ∧ W.cell? ⟨b1, o1 + t * 4 + 2, none⟩ = some (.int .i64 x2) ∧ W.cell? ⟨b1, o1 + t * 4 + 3, none⟩ = some (.int .i64 x3) ∧ W.cell? ⟨b2, o2 + t * 4, none⟩ = some (.int .i64 x0) ∧ W.cell? ⟨b2, o2 + t * 4 + 1, none⟩ = some (.int .i64 x1) ∧ W.cell? ⟨b2, o2 + t * 4 + 2, none⟩ = some (.int .i64 x2) ∧ W.cell? ⟨b2, o2 + t * 4 + 3, none⟩ = some (.int .i64 x3))) (by kernel_rfl) ⟨p0, p1, p2, p3, s0, s1, s2, s3⟩ (fun hHeld => ?_); simp only [List.size_toArray, List.length_cons, List.length_nil, Nat.reduceAdd, Array.replicate_succ, Array.replicate_zero, List.push_toArray, List.append_toArray, List.nil_append, List.cons_append])
      refine rgT 0 (h := ?_)
      refine rgT 1 (h := ?_)
      refine rgT 2 (h := ?_)
      refine rgT 3 (h := ?_)
      refine rgT 4 (h := ?_)
      refine rgT 5 (h := ?_)
      refine rgT 6 (h := ?_)
      refine rgT 7 (h := ?_)
      refine rgT 8 (h := ?_)
      refine wpAnyH_done (by kernel_rfl) ?_ _
      clear p0 p1 p2 p3 s0 s1 s2 s3
      go_wp2
      go_roundw
      case rel => exact ⟨t + 1, by go_num, by omega, HN.out⟩
      case measure => simp [intOf]; omega
    · go_wp2
      go_ret
      exact ⟨rfl, HK.out⟩
theorem eqNilE (w : World) (a : Option Addr) (n c n' c' : Nat) : (binOp .eql 33 (.slice a n c) (.slice none n' c')).run Tryz.prog w = .ok (.bool a.isNone) w := Lib.run_eql_slice_nil w _ _ a n c n' c' Tryz.underlying33
/-- A list of events copied. -/
theorem cloneE (w : World) (C : Nat) (a : Option Addr) (cap : Nat) (xs : List Ev4) (h : InG evC w C (.slice a xs.length cap) xs) (hC : C ≤ w.heap.size) (hl : xs.length ≤ 68719476000) :
    Calls Tryz.prog 42 #[.slice a xs.length cap] w fun e w' => ∃ v, e = .returned v ∧ OwE w' w.heap.size v xs ∧ Keeps (fun _ => False) w w' := by
  have q := eqNilE
  match a with
  | none =>
    obtain ⟨ao, cp, e, h1, h2, h3⟩ := h
    injection e with e e' e''
    subst e
    have hz : xs = [] := List.eq_nil_of_length_eq_zero (by have := h2 rfl; omega)
    subst hz
    go_enter Tryz.func42, Tryz.ntmps42
    go_wp2
    go_ret
    exact ⟨_, rfl, OwG.nil _ _ _ _ _, Keeps.refl _ _⟩
  | some ad =>
    have HI : Hid (InG evC (w.alloc (.cells #[] 36)) C (.slice (some ad) xs.length cap) xs) := h.later ((Below.refl _ _).alloc hC _)
    have HO : Hid (OwG evC 36 4 (w.alloc (.cells #[] 36)) w.heap.size (.slice (some ⟨w.heap.size, 0, none⟩) 0 0) []) := OwG.made _ _ _ _ _ (Nat.le_refl _)
    clear h
    go_enter Tryz.func42, Tryz.ntmps42
    go_wp2_with (at_builtin; refine app_more (by rfl) _ _ 33 36 (by rfl) Tryz.underlying33 infoEv4 rfl (by decide) (fun _ => rfl) w.heap.size _ [] HO.out (by rfl) _ _ xs (by rfl) HI.out (fun y _ => ev_one y) (by unfold maxLen; simp; omega) (by simp; omega) (by simp) ?_; intro v' w1 ho hb hk; rw [List.nil_append] at ho; obtain ⟨va, vc, rfl⟩ := ho.form; have HX : Hid (OwE w1 w.heap.size (.slice va xs.length vc) xs ∧ Below w.heap.size w w1) := ⟨ho, ((Below.refl _ _).alloc (Nat.le_refl _) _).trans hb⟩; clear ho hb hk)
    go_ret
    exact ⟨_, rfl, HX.out.1, Below.keeps HX.out.2 _⟩
/-- The events of the program's bench. -/
theorem bev_any (w : World) (F : Nat → Prop) (pt : Nat → Nat) (bb hb qb : Nat) (qv : Nat → Value) (ev en : Value) (h : Hp) (m : Hm w F pt hb qb qv ev en h) (L : Lay) (tv : Value) (hbe : w.heap[bb]? = some (.cells (beA L tv hb) 146)) (hl : h.ev.length ≤ 68719476000) :
    Calls Tryz.prog 73 #[.pointer (some ⟨bb, 0, none⟩)] w fun e w' => ∃ v, e = .returned v ∧ OwE w' w.heap.size v h.ev ∧ Keeps (fun _ => False) w w' := by
  have c3 : w.cell? ⟨bb, 3, none⟩ = some (.pointer (some ⟨hb, 0, none⟩)) := (cell?_heap hbe 3).trans rfl
  have HH : Hid (Calls Tryz.prog 13 #[.pointer (some ⟨hb, 0, none⟩)] w fun e w' => ∃ v, e = .returned v ∧ OwE w' w.heap.size v h.ev ∧ Keeps (fun _ => False) w w') := by
    show Calls _ _ _ _ _
    obtain ⟨a, cap, rfl⟩ := m.oe.form
    have e2 : w.cell? ⟨hb, 2, none⟩ = some (.slice a h.ev.length cap) := (cell?_heap m.hc 2).trans rfl
    have HC := cloneE w w.heap.size a cap h.ev m.oe.in (Nat.le_refl _) hl
    have HCC : Hid (∀ _ : Unit, _) := fun _ => HC
    clear HC m hbe c3
    go_enter Tryz.func13, Tryz.ntmps13
    go_wp2_with fail
    refine (HCC.out ()).mono ?_
    rintro e w1 ⟨v, rfl, ho, k⟩
    have HX : Hid (OwE w1 w.heap.size v h.ev ∧ Keeps (fun _ => False) w w1) := ⟨ho, k⟩
    clear ho k e2
    go_wp2
    go_ret
    exact ⟨_, rfl, HX.out⟩
  clear m hbe
  go_enter Tryz.func73, Tryz.ntmps73
  go_wp2_with fail
  refine HH.out.mono ?_
  rintro e w1 ⟨v, rfl, ho, k⟩
  have HX : Hid (OwE w1 w.heap.size v h.ev ∧ Keeps (fun _ => False) w w1) := ⟨ho, k⟩
  clear ho k c3 HH
  go_wp2
  go_ret
  exact ⟨_, rfl, HX.out⟩
/-- The document's. -/
theorem rev_any (w : World) (F : Nat → Prop) (pt hb qb : Nat) (qv : Nat → Value) (ev en : Value) (h : Hp) (m : Rh w F pt hb qb qv ev en h) (hl : h.ev.length ≤ 68719476000) :
    Calls Tryz.prog 74 #[.pointer (some ⟨hb, 0, none⟩)] w fun e w' => ∃ v, e = .returned v ∧ OwE w' w.heap.size v h.ev ∧ Keeps (fun _ => False) w w' := by
  obtain ⟨a, cap, rfl⟩ := m.oe.form
  have lh := m.lt _ m.fh
  have c3 : (w.alloc (.cells #[] 36)).cell? ⟨hb, 3, none⟩ = some (.slice a h.ev.length cap) := (((Keeps.refl (fun _ => False) w).alloc _).cell (p := ⟨hb, 3, none⟩) lh (fun e => e)).trans ((cell?_heap m.hc 3).trans rfl)
  have HI : Hid (InG evC w w.heap.size (.slice a h.ev.length cap) h.ev) := m.oe.in
  clear m
  go_enter Tryz.func74, Tryz.ntmps74
  go_wp2_with (at_builtin; refine hideG ?_)
  change wpList _ _ _ _ _ _
  refine copy_list (cs := evC) (w := w) (by rfl) _ _ 33 36 (by rfl) Tryz.underlying33 infoEv4 rfl (by decide) (fun _ => rfl) w.heap.size rfl (by rfl) w.heap.size _ h.ev (by rfl) HI.out (Nat.le_refl _) (fun y _ => ev_one y) (by unfold maxLen; omega) (by omega) ?_
  intro v' w' ho hb'
  obtain ⟨va, vc, rfl⟩ := ho.form
  have HX : Hid (OwE w' w.heap.size (.slice va h.ev.length vc) h.ev ∧ Below w.heap.size w w') := ⟨ho, hb'⟩
  clear ho hb' c3
  go_wp2
  go_ret
  exact ⟨_, rfl, HX.out.1, Below.keeps HX.out.2 _⟩
end Go.Proofs.YtdpebhdjcgiboaaGreat

namespace Go.Proofs.YtdpebhdjcgiboaaGreat
set_option linter.unusedSimpArgs false
open Go.ChangeShapes Go.WideShapes Go.ChangeAt Go.RowKit Go.MuLone Go.RwLone
set_option linter.unusedVariables false
set_option maxRecDepth 100000
set_option maxHeartbeats 3200000
/-- A bench, all of whose blocks are in G. -/
structure BnF (w : World) (G : Nat → Prop) (B : Bd) (bb hb qb : Nat) (tv : Value) (a : Hp × Ls) : Prop where
  h : ∃ F qv ev en, Hm w F B.T hb qb qv ev en a.1 ∧ (∀ y, F y → ¬ fB B y) ∧ (∀ y, F y → G y) ∧ ¬ F bb ∧ (∀ g, tv.ownBlock = some g → ¬ F g)
  o : Bo B w a.2
  lo : ∀ y, fB B y → G y
  iv : Iv B.n a.1
  be : w.heap[bb]? = some (.cells (beA B.L tv hb) 146)
  ot : OwT w 0 tv ((List.range B.n).map B.T)
  nb : ¬ fB B bb
  nt : ∀ g, tv.ownBlock = some g → ¬ fB B g
  gb : G bb
  gt : ∀ g, tv.ownBlock = some g → G g
  gl : ∀ y, G y → y < w.heap.size
section
variable {w w' : World} {G : Nat → Prop} {B : Bd} {bb hb qb : Nat} {tv : Value} {a : Hp × Ls}
theorem BnF.keeps {D : Nat → Prop} (b : BnF w G B bb hb qb tv a) (k : Keeps D w w') (hD : ∀ y, D y → ¬ G y) : BnF w' G B bb hb qb tv a := by
  obtain ⟨F, qv, ev, en, m, d, l, nb, nt⟩ := b.h
  exact ⟨⟨F, qv, ev, en, m.keeps k (fun x hx hF => hD x hx (l x hF)), d, l, nb, nt⟩, b.o.far k (fun x hx e => hD x hx (b.lo x e)), b.lo, b.iv, (k.block _ (Array.getElem?_eq_some_iff.1 b.be).1 (fun e => hD _ e b.gb)).trans b.be, owK b.ot k (fun g hg e => hD g e (b.gt g hg)), b.nb, b.nt, b.gb, b.gt, fun y hy => Nat.lt_of_lt_of_le (b.gl y hy) k.size⟩
theorem BnF.still (b : BnF w G B bb hb qb tv a) (k : Keeps (fun _ => False) w w') : BnF w' G B bb hb qb tv a := b.keeps k (fun _ e => e.elim)
theorem BnF.mid {hB : BdOk B} {F F' : Nat → Prop} {qv' : Nat → Value} {ev' en' : Value} {h' : Hp} {s' : Ls} (b : BnF w G B bb hb qb tv a) (d : ∀ y, F y → G y) (nb : ¬ F bb) (nt : ∀ g, tv.ownBlock = some g → ¬ F g) (md : Mid (mcB B hB) w w' F hb qb F' qv' ev' en' h' s') (iv : Iv B.n h') : BnF w' (fun y => G y ∨ F' y) B bb hb qb tv (h', s') ∧ (∀ y, G y ∨ F' y → G y ∨ w.heap.size ≤ y) ∧ Keeps G w w' := by
  have lb := (Array.getElem?_eq_some_iff.1 b.be).1
  have hs := md.k.size
  refine ⟨⟨⟨F', qv', ev', en', md.m, md.d, fun y hy => .inr hy, fun e => (md.f bb e).elim nb (fun e => by omega), fun g hg e => (md.f g e).elim (nt g hg) (fun e => by have := own_lt b.ot hg; omega)⟩, md.o, fun y hy => .inl (b.lo y hy), iv, (md.k.block bb lb (fun e => e.elim nb b.nb)).trans b.be, owK b.ot md.k (fun g hg e => e.elim (nt g hg) (b.nt g hg)), b.nb, b.nt, .inl b.gb, fun g hg => .inl (b.gt g hg), fun y hy => hy.elim (fun e => Nat.lt_of_lt_of_le (b.gl y e) hs) (fun e => md.m.lt y e)⟩, fun y hy => hy.elim .inl (fun e => (md.f y e).elim (fun e => .inl (d y e)) .inr), md.k.mono (fun y e => e.elim (d y) (b.lo y))⟩
theorem BnF.of {w0 : World} (b : BnG w0 w B bb hb qb tv a) : BnF w (fun y => w0.heap.size ≤ y ∧ y < w.heap.size) B bb hb qb tv a := by
  obtain ⟨F, qv, ev, en, m, d, l, nb, nt⟩ := b.h
  have lb := (Array.getElem?_eq_some_iff.1 b.be).1
  exact ⟨⟨F, qv, ev, en, m, d, fun y hy => ⟨l y hy, m.lt y hy⟩, nb, nt⟩, b.o, fun y hy => ⟨b.lo y hy, b.o.lt hy⟩, b.iv, b.be, b.ot, b.nb, b.nt, ⟨b.b0, lb⟩, fun g hg => ⟨b.ol g hg, own_lt b.ot hg⟩, fun y hy => hy.2⟩
theorem BnF.g (b : BnF w G B bb hb qb tv a) : BnG { w with heap := #[] } w B bb hb qb tv a := by
  obtain ⟨F, qv, ev, en, m, d, l, nb, nt⟩ := b.h
  exact ⟨⟨F, qv, ev, en, m, d, fun y _ => Nat.zero_le _, nb, nt⟩, b.o, fun y _ => Nat.zero_le _, b.iv, b.be, b.ot, b.nb, b.nt, Nat.zero_le _, ⟨rfl, rfl, rfl, Nat.zero_le _, fun x hx => absurd hx (Nat.not_lt_zero _)⟩, fun _ _ => Nat.zero_le _⟩
end
/-- Bench.Play, with what it touches. -/
theorem bplayF (w : World) (G : Nat → Prop) (B : Bd) (hB : BdOk B) (bb hb qb : Nat) (tv : Value) (a : Hp × Ls) (b : BnF w G B bb hb qb tv a) (s : ByteArray) (hs : s.size ≤ 1048576) :
    Calls Tryz.prog 81 #[.pointer (some ⟨bb, 0, none⟩), .string s] w fun e w' => e = .returned (.int .i64 (retI (playP (mcB B hB) (dL s.data.toList) 14 a).1 (playP (mcB B hB) (dL s.data.toList) 14 a).2.1 14)) ∧ ∃ G', BnF w' G' B bb hb qb tv (playP (mcB B hB) (dL s.data.toList) 14 a).2.2 ∧ (∀ y, G' y → G y ∨ w.heap.size ≤ y) ∧ Keeps G w w' := by
  have H : Hid (BnF w.drew G B bb hb qb tv a) := b.still (Keeps.refl _ _).drew
  have HD : Hid (∀ W, Calls Tryz.prog 10 #[.string s] W fun e w' => ∃ v, e = .returned v ∧ ownP w' W.heap.size v (dL s.data.toList) ∧ Below W.heap.size W w') := fun W => decode_any s W (by omega)
  have HL : Hid ((dL s.data.toList).length ≤ 1048576 ∧ ∀ p ∈ dL s.data.toList, p.2.2 ≤ 300) := ⟨by have := (dL_len _ s.data.toList (Nat.le_refl _)).1; rw [len_list] at this; omega, dL_small _ _ (Nat.le_refl _)⟩
  have HC := b.be
  clear b
  generalize dL s.data.toList = vs at *
  go_enter Tryz.func81, Tryz.ntmps81
  go_wp2_with fail
  (refine wp_region_held_drew (S := (fun W => W.cell? ⟨bb, 3, none⟩ = some (.pointer (some ⟨hb, 0, none⟩)))) (by kernel_rfl) ((cell?_heap HC 3).trans rfl) (fun hHeld => ?_); simp only [List.size_toArray, List.length_cons, List.length_nil, Nat.reduceAdd, Array.replicate_succ, Array.replicate_zero, List.push_toArray, List.append_toArray, List.nil_append, List.cons_append])
  clear HC
  refine rgT 0 (h := ?_)
  refine rgT 1 (h := ?_)
  refine rgT 2 (h := ?_)
  refine rgT 3 (h := ?_)
  refine rgT 4 (h := ?_)
  (refine rgS 5 (h := fun K hK => ?_); go_simp)
  refine (HD.out w.drew).mono ?_
  rintro e w1 ⟨v, rfl, ho, hb1⟩
  have H1 : Hid (BnF w1 G B bb hb qb tv a ∧ Keeps (fun _ => False) w w1) := ⟨H.out.still (Below.keeps hb1 _), (Keeps.refl _ _).drew.trans (Below.keeps hb1 _)⟩
  obtain ⟨F, qv, ev, en, m, d, l, nb, nt⟩ := H.out.h
  have HPk : Hid (PkR w1 (fun x => F x ∨ fB B x) v vs) := PkR.of ho (fun x e => e.elim (m.lt x) (H.out.o.lt)) (by have := HL.out.1; omega) HL.out.2
  have HM : Hid (Hm w1 F B.T hb qb qv ev en a.1 ∧ (∀ y, F y → ¬ fB B y) ∧ (∀ y, F y → G y) ∧ ¬ F bb ∧ (∀ g, tv.ownBlock = some g → ¬ F g)) := ⟨m.still (Below.keeps hb1 _), d, l, nb, nt⟩
  clear ho hb1 H HD m d l nb nt
  have HC1 := H1.out.1.be
  (refine hK.out _ _ ((cell?_heap HC1 3).trans rfl) (fun hHeld => ?_); clear hK K; try simp only [Act.put, List.setIfInBounds_toArray, List.set_cons_zero, List.set_cons_succ])
  clear HC1
  (refine rgS 6 (h := fun K hK => ?_); go_simp)
  refine (hplay_any (mcB B hB) w1 F hb qb qv ev en a HM.out.1 H1.out.1.o HM.out.2.1 H1.out.1.iv 14 (by decide) v vs HPk.out).mono ?_
  rintro e w2 ⟨rfl, iv2, F2, qv2, ev2, en2, md⟩
  obtain ⟨p1, p2, p3⟩ := H1.out.1.mid HM.out.2.2.1 HM.out.2.2.2.1 HM.out.2.2.2.2 md iv2
  have H2 : Hid (∃ G', BnF w2 G' B bb hb qb tv (playP (mcB B hB) vs 14 a).2.2 ∧ (∀ y, G' y → G y ∨ w.heap.size ≤ y) ∧ Keeps G w w2) := ⟨_, p1, fun y hy => (p2 y hy).imp id (fun e => by have := H1.out.2.size; omega), (H1.out.2.mono (fun _ e => e.elim)).trans p3⟩
  have HC2 := p1.be
  clear iv2 md H1 HL HM HPk p1 p2 p3
  obtain ⟨y, hy⟩ := retP_I (playP (mcB B hB) vs 14 a).1 (playP (mcB B hB) vs 14 a).2.1 14
  rw [hy]
  clear hy
  obtain ⟨rr, hrr⟩ : ∃ rr, retI (playP (mcB B hB) vs 14 a).1 (playP (mcB B hB) vs 14 a).2.1 14 = rr := ⟨_, rfl⟩
  have HRR : Hid (retI (playP (mcB B hB) vs 14 a).1 (playP (mcB B hB) vs 14 a).2.1 14 = rr) := hrr
  rw [hrr]
  clear hrr
  (refine hK.out _ _ ((cell?_heap HC2 3).trans rfl) (fun hHeld => ?_); clear hK K; try simp only [Act.put, List.setIfInBounds_toArray, List.set_cons_zero, List.set_cons_succ])
  refine rgT 7 (h := ?_)
  refine rgT 8 (h := ?_)
  refine rgT 9 (h := ?_)
  refine rgT 10 (h := ?_)
  refine rgT 11 (h := ?_)
  refine wpAnyH_done (by kernel_rfl) ?_ _
  clear HC2
  go_wp2
  go_ret
  rw [HRR.out]
  exact ⟨rfl, H2.out⟩
/-- Bench.Outcome, with what it touches. -/
theorem boutF (w : World) (G : Nat → Prop) (B : Bd) (hB : BdOk B) (bb hb qb : Nat) (tv : Value) (a : Hp × Ls) (b : BnF w G B bb hb qb tv a) (hn4 : 1 ≤ B.n ∧ B.n ≤ 4) :
    Calls Tryz.prog 80 #[.pointer (some ⟨bb, 0, none⟩)] w fun e w' => ∃ g rv, e = .returned (.tuple #[.agg #[.slice (some ⟨g, 0, none⟩) B.wd B.wd, rv], .bool (idleP a.1)]) ∧ OwW w' w.heap.size (.slice (some ⟨g, 0, none⟩) B.wd B.wd) (wlL a.2.wo B.wd) ∧ OwW w' w.heap.size rv (regsL a.2.rg B.n) ∧ BnF w' G B bb hb qb tv a ∧ Keeps G w w' := by
  refine (outcomeG _ w B hB bb hb qb tv a b.g hn4).mono ?_
  rintro e w' ⟨g, rv, he, o1, o2, k, ho⟩
  have hg := (World.ownsRow.lt o1 g rfl).1
  obtain ⟨F, qv, ev, en, m, d, l, nb, nt⟩ := b.h
  have lb := (Array.getElem?_eq_some_iff.1 b.be).1
  exact ⟨g, rv, he, o1, o2.down (by omega), ⟨⟨F, qv, ev, en, m.keeps k (fun x hx hF => d x hF (.inl hx)), d, l, nb, nt⟩, ho, b.lo, b.iv, (k.block bb lb (fun e => b.nb (.inl e))).trans b.be, owK b.ot k (fun g hg e => b.nt g hg (.inl e)), b.nb, b.nt, b.gb, b.gt, fun y hy => Nat.lt_of_lt_of_le (b.gl y hy) k.size⟩, k.mono (fun y e => b.lo y (.inl e))⟩
/-- The document's bench, all of whose blocks are in G. -/
structure BsF (w : World) (G : Nat → Prop) (R : Rd) (hb qb : Nat) (a : Hp × Ls) : Prop where
  m : ∃ F qv ev en, Rh w F R.bk hb qb qv ev en a.1 ∧ ∀ y, F y → G y ∧ ¬ fR R y
  o : RP R w a.2
  iv : Iv R.n a.1
  fr : ∀ y, fR R y → G y
  hp : w.cell? ⟨R.bk, 2, none⟩ = some (.pointer (some ⟨hb, 0, none⟩))
  gl : ∀ y, G y → y < w.heap.size
  cw : R.wd ≤ R.cc
section
variable {w w' : World} {G : Nat → Prop} {R : Rd} {hb qb : Nat} {a : Hp × Ls}
theorem BsF.keeps {D : Nat → Prop} (h : BsF w G R hb qb a) (k : Keeps D w w') (hD : ∀ y, D y → ¬ G y) : BsF w' G R hb qb a := by
  obtain ⟨F, qv, ev, en, m, l⟩ := h.m
  exact ⟨⟨F, qv, ev, en, m.keeps k (fun x hx hF => hD x hx (l x hF).1), l⟩, h.o.keeps k (fun y hy e => hD y hy (h.fr y e)), h.iv, h.fr, (k.cell (p := ⟨R.bk, 2, none⟩) (h.o.lt _ (.inr (.inl rfl))) (fun e => hD _ e (h.fr _ (.inr (.inl rfl))))).trans h.hp, fun y hy => Nat.lt_of_lt_of_le (h.gl y hy) k.size, h.cw⟩
theorem BsF.still (h : BsF w G R hb qb a) (k : Keeps (fun _ => False) w w') : BsF w' G R hb qb a := h.keeps k (fun _ e => e.elim)
theorem BsF.next (hR : RdOk R) {a' : Hp × Ls} {F : Nat → Prop} (h : BsF w G R hb qb a) (l0 : ∀ y, F y → G y ∧ ¬ fR R y) (p : Pr R w w' F hb qb a') : ∃ G', BsF w' G' R hb qb a' ∧ (∀ y, G' y → G y ∨ w.heap.size ≤ y) ∧ Keeps G w w' := by
  obtain ⟨F', qv, ev, en, m, f, d⟩ := p.mid
  have lb : R.bk < w.heap.size := h.o.lt _ (.inr (.inl rfl))
  have nb : ¬ (F R.bk ∨ fRw R R.bk) := fun e => e.elim (fun e => (l0 _ e).2 (.inr (.inl rfl))) (fun e => hR.bk e)
  have hs := p.k.size
  exact ⟨fun y => G y ∨ F' y, ⟨⟨F', qv, ev, en, m, fun y hy => ⟨.inr hy, d y hy⟩⟩, p.o, p.iv, fun y hy => .inl (h.fr y hy), (p.k.cell (p := ⟨R.bk, 2, none⟩) lb nb).trans h.hp, fun y hy => hy.elim (fun e => Nat.lt_of_lt_of_le (h.gl y e) hs) (fun e => m.lt y e), h.cw⟩, fun y hy => hy.elim .inl (fun e => (f y e).elim (fun e => .inl (l0 y e).1) .inr), p.k.mono (fun y e => e.elim (fun e => (l0 y e).1) (fun e => h.fr y (.inl e)))⟩
theorem BsF.of {w0 : World} (b : Bs w0 w R hb qb a) : BsF w (fun y => w0.heap.size ≤ y ∧ y < w.heap.size) R hb qb a := by
  obtain ⟨F, qv, ev, en, m, l⟩ := b.m
  exact ⟨⟨F, qv, ev, en, m, fun y hy => ⟨⟨(l y hy).1, m.lt y hy⟩, (l y hy).2⟩⟩, b.o, b.iv, fun y hy => ⟨b.fr y hy, b.o.lt y hy⟩, b.hp, fun y hy => hy.2, b.cw⟩
end
/-- The document's Bench.Play, with what it touches. -/
theorem rbplayF (w : World) (G : Nat → Prop) (R : Rd) (hR : RdOk R) (hb qb : Nat) (a : Hp × Ls) (b : BsF w G R hb qb a) (s : ByteArray) (hs : s.size ≤ 1048576) :
    Calls Tryz.prog 53 #[.pointer (some ⟨R.bk, 0, none⟩), .string s] w fun e w' => ∃ d : Nat, d ≤ 1099511627776 ∧ (playP (PM R) (dL s.data.toList) 1099511627776 a).2.1 = 1099511627776 - d ∧ e = .returned (.int .i64 (d : Int)) ∧ ∃ G', BsF w' G' R hb qb (playP (PM R) (dL s.data.toList) 1099511627776 a).2.2 ∧ (∀ y, G' y → G y ∨ w.heap.size ≤ y) ∧ Keeps G w w' := by
  have H : Hid (BsF w.drew G R hb qb a) := b.still (Keeps.refl _ _).drew
  have HD : Hid (∀ W, Calls Tryz.prog 95 #[.string s] W fun e w' => ∃ v, e = .returned v ∧ ownP w' W.heap.size v (dL s.data.toList) ∧ Below W.heap.size W w') := fun W => refDecode s W (by omega)
  have HL : Hid ((dL s.data.toList).length ≤ 1048576 ∧ ∀ p ∈ dL s.data.toList, p.2.2 ≤ 300) := ⟨by have := (dL_len _ s.data.toList (Nat.le_refl _)).1; rw [len_list] at this; omega, dL_small _ _ (Nat.le_refl _)⟩
  have HC : w.drew.cell? ⟨R.bk, 2, none⟩ = some (.pointer (some ⟨hb, 0, none⟩)) := H.out.hp
  clear b
  generalize dL s.data.toList = vs at *
  go_enter Tryz.func53, Tryz.ntmps53
  go_wp2_with fail
  (refine wp_region_held_drew (S := (fun W => W.cell? ⟨R.bk, 2, none⟩ = some (.pointer (some ⟨hb, 0, none⟩)))) (by kernel_rfl) HC (fun hHeld => ?_); simp only [List.size_toArray, List.length_cons, List.length_nil, Nat.reduceAdd, Array.replicate_succ, Array.replicate_zero, List.push_toArray, List.append_toArray, List.nil_append, List.cons_append])
  clear HC
  refine rgT 0 (h := ?_)
  refine rgT 1 (h := ?_)
  refine rgT 2 (h := ?_)
  refine rgT 3 (h := ?_)
  refine rgT 4 (h := ?_)
  (refine rgS 5 (h := fun K hK => ?_); go_simp)
  refine (HD.out w.drew).mono ?_
  rintro e w1 ⟨v, rfl, ho, hb1⟩
  have H1 : Hid (BsF w1 G R hb qb a ∧ Keeps (fun _ => False) w w1) := ⟨H.out.still (Below.keeps hb1 _), (Keeps.refl _ _).drew.trans (Below.keeps hb1 _)⟩
  obtain ⟨F, qv, ev, en, m, l⟩ := H.out.m
  have HPk : Hid (PkR w1 (fun x => F x ∨ fRw R x) v vs) := PkR.of ho (fun x e => e.elim (m.lt x) (fun e => H.out.o.lt x (.inl e))) (by have := HL.out.1; omega) HL.out.2
  have HP : Hid (Pr R w1 w1 F hb qb a ∧ ∀ y, F y → G y ∧ ¬ fR R y) := ⟨⟨⟨F, qv, ev, en, m.still (Below.keeps hb1 _), fun y hy => .inl hy, fun y hy => (l y hy).2⟩, H1.out.1.o, Keeps.refl _ _, H1.out.1.iv⟩, l⟩
  have HC1 := H1.out.1.hp
  clear ho hb1 H HD m l
  (refine hK.out _ _ HC1 (fun hHeld => ?_); clear hK K; try simp only [Act.put, List.setIfInBounds_toArray, List.set_cons_zero, List.set_cons_succ])
  clear HC1
  (refine rgS 6 (h := fun K hK => ?_); go_simp)
  refine (rplay_any hR HP.out.1 1099511627776 (by omega) v vs HPk.out).mono ?_
  rintro e w2 ⟨d, hd, hl, rfl, p2⟩
  obtain ⟨G', g1, g2, g3⟩ := H1.out.1.next hR HP.out.2 p2
  have H2 : Hid (∃ G', BsF w2 G' R hb qb (playP (PM R) vs 1099511627776 a).2.2 ∧ (∀ y, G' y → G y ∨ w.heap.size ≤ y) ∧ Keeps G w w2) := ⟨G', g1, fun y hy => (g2 y hy).imp id (fun e => by have := H1.out.2.size; omega), (H1.out.2.mono (fun _ e => e.elim)).trans g3⟩
  have HL2 : Hid ((playP (PM R) vs 1099511627776 a).2.1 = 1099511627776 - d) := hl
  have HC2 := g1.hp
  generalize erC (playP (PM R) vs 1099511627776 a).1 = ee at *
  clear p2 H1 HL HP HPk hl g1 g2 g3
  (refine hK.out _ _ HC2 (fun hHeld => ?_); clear hK K; try simp only [Act.put, List.setIfInBounds_toArray, List.set_cons_zero, List.set_cons_succ])
  clear HC2
  refine rgT 7 (h := ?_)
  refine rgT 8 (h := ?_)
  refine rgT 9 (h := ?_)
  refine rgT 10 (h := ?_)
  refine rgT 11 (h := ?_)
  refine wpAnyH_done (by kernel_rfl) ?_ _
  go_wp2
  go_ret
  exact ⟨d, hd, HL2.out, rfl, H2.out⟩
end Go.Proofs.YtdpebhdjcgiboaaGreat
