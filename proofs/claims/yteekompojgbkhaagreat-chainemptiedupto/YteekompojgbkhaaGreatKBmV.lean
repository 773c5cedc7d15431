import Derived.Test.YteekompojgbkhaaGreatKBmS
import Derived.Test.YteekompojgbkhaaGreatKBqT
namespace Go.Proofs.YteekompojgbkhaaGreat
open Go.ChangeShapes Go.WideShapes Go.ChangeAt Go.RowKit Go.MuLone Go.RwLone
set_option linter.unusedVariables false
set_option maxRecDepth 100000
set_option maxHeartbeats 6400000
/-- What holds between the moves of one machine. -/
def AlQ (w0 : World) (B bb : Nat) (l : BkL) (N n k bd t : Nat) (W : World) : Prop := ∃ s G q, BkM W B bb l s ∧ BkJ s G ∧ Below B w0 W ∧ s.N = N ∧ s.all.length = n ∧ s.all[k]? = some q ∧ (q.o.dn = false → oAl s.x G q.o + t ≤ bd)
theorem AlQ.next {w0 W W' : World} {B bb N n k bd t : Nat} {l : BkL} {s s' : BkS} {G G' : Gb} {q : OL} {o' : On} (h4 : Below B w0 W) (h5 : s.N = N) (h6 : s.all.length = n) (hq : s.all[k]? = some q) (hd : q.o.dn = false) (hb : oAl s.x G q.o + t ≤ bd) (b1 : BkM W' B bb l s') (b2 : Below B W W') (b3 : Mvd s G k q.o s' G' o') : AlQ w0 B bb l N n k bd (t + 1) W' := by
  obtain ⟨j1, j2, j3, j4, j5, j6⟩ := b3
  have hl := (List.getElem?_eq_some_iff.1 hq).1
  have e : (s'.all.map OL.o)[k]? = some o' := by
    rw [j3]
    exact List.getElem?_set_self (by rw [List.length_map]; exact hl)
  rw [List.getElem?_map] at e
  obtain ⟨q', e1, e2⟩ := Option.map_eq_some_iff.1 e
  refine ⟨s', G', q', b1, j1, h4.trans b2, j4.trans h5, j6.trans h6, e1, fun _ => ?_⟩
  have := (j2.2 hd).2.2.2
  rw [e2]
  omega
section
variable {H : Type} {enc : TypeId × Value → H} {W : World}
end
end Go.Proofs.YteekompojgbkhaaGreat

namespace Go.Proofs.YteekompojgbkhaaGreat
set_option linter.unusedSimpArgs false
open Go.ChangeShapes Go.WideShapes Go.ChangeAt Go.RowKit Go.MuLone Go.RwLone
set_option linter.unusedVariables false
set_option maxRecDepth 100000
set_option maxHeartbeats 6400000
abbrev mostN (N : Nat) : Nat := (3 * N + 2) * (3 * N + 8)
theorem bk_most (w : World) (bb N m : Nat) (b2 : w.cell? ⟨bb, 2, none⟩ = some (.int .i64 (N : Int))) (hN : N ≤ 24) (hm : mostN N = m) : Calls Tryz.prog 27 #[.pointer (some ⟨bb, 0, none⟩)] w fun e w' => e = .returned (.int .i64 (m : Int)) ∧ w' = w.drew := by
  obtain ⟨a, ha⟩ : ∃ x : Nat, 3 * N = x := ⟨_, rfl⟩
  obtain ⟨b, hb⟩ : ∃ x : Nat, a + 2 = x := ⟨_, rfl⟩
  obtain ⟨c, hc⟩ : ∃ x : Nat, a + 8 = x := ⟨_, rfl⟩
  have x1 : IntKind.i64.wrap (3 * (N : Int)) = (a : Int) := by rw [IntKind.wrap_i64]; omega
  have x2 : IntKind.i64.wrap ((a : Int) + 2) = (b : Int) := by rw [IntKind.wrap_i64]; omega
  have x3 : IntKind.i64.wrap ((a : Int) + 8) = (c : Int) := by rw [IntKind.wrap_i64]; omega
  have x4 : IntKind.i64.wrap ((b : Int) * (c : Int)) = (m : Int) := by
    have e : b * c = m := by rw [← hm, ← hb, ← hc, ← ha]
    have l : b * c ≤ 74 * 80 := Nat.mul_le_mul (by omega) (by omega)
    have e2 : (b : Int) * (c : Int) = (m : Int) := by rw [← e]; exact (Int.natCast_mul b c).symm
    rw [IntKind.wrap_i64, e2]
    omega
  have sx : w.drew.cell? ⟨bb, 2, none⟩ = some (.int .i64 (N : Int)) := b2
  clear ha hb hc hm b2
  go_enter Tryz.func27, Tryz.ntmps27
  go_wp2_with fail
  (refine wp_region_held_drew (S := (fun Z => Z.cell? ⟨bb, 2, none⟩ = some (.int .i64 (N : Int)))) (by kernel_rfl) sx (fun hHeld => ?_); simp only [List.size_toArray, List.length_cons, List.length_nil, Nat.reduceAdd, Array.replicate_succ, Array.replicate_zero, List.push_toArray, List.append_toArray, List.nil_append, List.cons_append])
  clear sx
  refine rgT 0 (h := ?_)
  refine rgT 1 (h := ?_)
  refine rgT 2 (h := ?_)
  refine rgT 3 (h := ?_)
  refine rgT 4 (h := ?_)
  refine rgT 5 (h := ?_)
  refine rgT 6 (h := ?_)
  refine rgT 7 (h := ?_)
  refine rgT 8 (h := ?_)
  refine rgT 9 (h := ?_)
  refine rgT 10 (h := ?_)
  refine rgT 11 (h := ?_)
  refine rgT 12 (h := ?_)
  refine rgT 13 (h := ?_)
  refine wpAnyH_done (by kernel_rfl) ?_ _
  clear hHeld
  go_wp2
  go_ret
  exact ⟨rfl, rfl⟩
/-- What is left of the machines, the first k of them moved in round t. -/
def InQ (w0 : World) (B bb : Nat) (l : BkL) (N n M t k c : Nat) (W : World) : Prop := ∃ s G, BkM W B bb l s ∧ BkJ s G ∧ Below B w0 W ∧ s.N = N ∧ s.all.length = n ∧ c ≤ k ∧ ((t = M → c = 0) ∧ (c = 0 → ∀ i q, s.all[i]? = some q → i < k → q.o.dn = true)) ∧ ∀ i q, s.all[i]? = some q → q.o.dn = false → (i < k → phi N (bkO s.nb) G q.o + (t + 1) ≤ M) ∧ phi N (bkO s.nb) G q.o + t ≤ M
theorem BkJ.phi1 {s : BkS} {G : Gb} {q : OL} {i : Nat} (h : BkJ s G) (hq : s.all[i]? = some q) (hd : q.o.dn = false) : 1 ≤ phi s.N (bkO s.nb) G q.o := phi_pos (h.ok hq) hd
theorem InQ.skip {w0 W : World} {B bb N n M t k c : Nat} {l : BkL} {s : BkS} {G : Gb} {q : OL} (h1 : BkM W B bb l s) (h2 : BkJ s G) (h3 : Below B w0 W) (h4 : s.N = N) (h5 : s.all.length = n) (h6 : c ≤ k) (h7 : (t = M → c = 0) ∧ (c = 0 → ∀ i q, s.all[i]? = some q → i < k → q.o.dn = true)) (h8 : ∀ i q, s.all[i]? = some q → q.o.dn = false → (i < k → phi N (bkO s.nb) G q.o + (t + 1) ≤ M) ∧ phi N (bkO s.nb) G q.o + t ≤ M) (hq : s.all[k]? = some q) (hd : q.o.dn = true) : InQ w0 B bb l N n M t (k + 1) c W := by
  refine ⟨s, G, h1, h2, h3, h4, h5, by omega, ⟨h7.1, fun e i p hp hi => ?_⟩, fun i p hp hpd => ⟨fun hi => ?_, (h8 i p hp hpd).2⟩⟩
  · by_cases e2 : i = k
    · rw [e2, hq] at hp
      cases hp
      exact hd
    · exact h7.2 e i p hp (by omega)
  by_cases e : i = k
  · rw [e, hq] at hp
    cases hp
    rw [hd] at hpd
    cases hpd
  · exact (h8 i p hp hpd).1 (by omega)
theorem InQ.next {w0 W W' : World} {B bb N n M t k c : Nat} {l : BkL} {s s' : BkS} {G G' : Gb} {q : OL} {o' : On} (h2 : BkJ s G) (h3 : Below B w0 W) (h4 : s.N = N) (h5 : s.all.length = n) (h6 : c ≤ k) (h7 : (t = M → c = 0) ∧ (c = 0 → ∀ i q, s.all[i]? = some q → i < k → q.o.dn = true)) (h8 : ∀ i q, s.all[i]? = some q → q.o.dn = false → (i < k → phi N (bkO s.nb) G q.o + (t + 1) ≤ M) ∧ phi N (bkO s.nb) G q.o + t ≤ M) (hq : s.all[k]? = some q) (hd : q.o.dn = false) (b1 : BkM W' B bb l s') (b2 : Below B W W') (b3 : Mvd s G k q.o s' G' o') : InQ w0 B bb l N n M t (k + 1) (c + 1) W' := by
  obtain ⟨j1, j2, j3, j4, j5, j6⟩ := b3
  have hl := (List.getElem?_eq_some_iff.1 hq).1
  have n0 := h2.n0
  have n1 := h2.n1
  have hb := bkO_in n1.1
  have r1 := j1.i.ranks
  obtain ⟨d1, d2, d3, d4⟩ := j2.2 hd
  have p1 := h2.phi1 hq hd
  have p2 := (h8 k q hq hd).2
  rw [h4] at p1
  have e : (s'.all.map OL.o)[k]? = some o' := by
    rw [j3]
    exact List.getElem?_set_self (by rw [List.length_map]; exact hl)
  rw [List.getElem?_map] at e
  obtain ⟨q', e1, e2⟩ := Option.map_eq_some_iff.1 e
  have own : o'.dn = false → phi N (bkO s.nb) G' o' + 1 ≤ phi N (bkO s.nb) G q.o := fun _ => by
    have a := h2.ok hq
    have b := j1.ok e1
    rw [j4, j5, e2] at b
    have gi := j1.i.g
    rw [j4, j5] at gi
    rw [← h4]
    exact phi_own d2 d3 a hd b h2.i.g gi (by omega) hb (by omega) n0.1
  have oth : ∀ i p, i ≠ k → s'.all[i]? = some p → ∃ p0, s.all[i]? = some p0 ∧ p0.o = p.o ∧ phi N (bkO s.nb) G' p.o ≤ phi N (bkO s.nb) G p.o := fun i p hi hp => by
    have f : (s'.all.map OL.o)[i]? = some p.o := by rw [List.getElem?_map, hp]; rfl
    rw [j3, List.getElem?_set_ne (fun e => hi e.symm), List.getElem?_map] at f
    obtain ⟨p0, f1, f2⟩ := Option.map_eq_some_iff.1 f
    refine ⟨p0, f1, f2, ?_⟩
    have a := h2.ok f1
    rw [f2] at a
    have b := j1.ok hp
    rw [j4, j5] at b
    have gi := j1.i.g
    rw [j4, j5] at gi
    rw [← h4]
    exact phi_oth d2 a b h2.i.g gi (by omega) hb (by omega) n0.1
  refine ⟨s', G', b1, j1, h3.trans b2, j4.trans h4, j6.trans h5, by omega, ⟨fun e => by omega, fun e => by omega⟩, fun i p hp hpd => ?_⟩
  rw [j5]
  by_cases hi : i = k
  · subst hi
    rw [e1] at hp
    have hp : q' = p := Option.some.inj hp
    rw [← hp] at hpd ⊢
    rw [e2] at hpd ⊢
    have := own hpd
    exact ⟨fun _ => by omega, by omega⟩
  · obtain ⟨p0, f1, f2, f3⟩ := oth i p hi hp
    have g := h8 i p0 f1 (by rw [f2]; exact hpd)
    rw [f2] at g
    exact ⟨fun hlt => by have := g.1 (by omega); omega, by have := g.2; omega⟩
/-- What holds between the rounds. -/
def DrQ (w0 : World) (B bb : Nat) (l : BkL) (N n M t c : Nat) (W : World) : Prop := c ≤ n ∧ (t = M + 1 → c = 0) ∧ ∃ (s : BkS) (G : Gb), BkM W B bb l s ∧ BkJ s G ∧ Below B w0 W ∧ s.N = N ∧ s.all.length = n ∧ (c = 0 → ∀ (i : Nat) (q : OL), s.all[i]? = some q → q.o.dn = true) ∧ ∀ (i : Nat) (q : OL), s.all[i]? = some q → q.o.dn = false → phi N (bkO s.nb) G q.o + t ≤ M
theorem DrQ.go {w0 W : World} {B bb N n M t c : Nat} {l : BkL} (h : DrQ w0 B bb l N n M t c W) : InQ w0 B bb l N n M t 0 0 W := by
  obtain ⟨_, _, s, G, h1, h2, h3, h4, h5, h6⟩ := h
  exact ⟨s, G, h1, h2, h3, h4, h5, Nat.le_refl _, ⟨fun _ => rfl, fun _ i q _ e => absurd e (Nat.not_lt_zero _)⟩, fun i q hq hd => ⟨fun e => absurd e (Nat.not_lt_zero _), h6.2 i q hq hd⟩⟩
theorem InQ.done {w0 W : World} {B bb N n M t c : Nat} {l : BkL} (h : InQ w0 B bb l N n M t n c W) (ht : t ≤ M) : DrQ w0 B bb l N n M (t + 1) c W := by
  obtain ⟨s, G, h1, h2, h3, h4, h5, h6, h7, h8⟩ := h
  exact ⟨h6, fun e => h7.1 (by omega), s, G, h1, h2, h3, h4, h5, fun e i q hq => h7.2 e i q hq (by have := (List.getElem?_eq_some_iff.1 hq).1; omega), fun i q hq hd => (h8 i q hq hd).1 (by have := (List.getElem?_eq_some_iff.1 hq).1; omega)⟩
theorem BkJ.drain {s : BkS} {G : Gb} (h : BkJ s G) {w0 W : World} {B bb : Nat} {l : BkL} (b : BkM W B bb l s) (hb : Below B w0 W) : DrQ w0 B bb l s.N s.all.length (mostN s.N) 0 s.all.length W := ⟨Nat.le_refl _, fun e => by omega, s, G, b, h, hb, rfl, rfl, fun e i q hq => by have := (List.getElem?_eq_some_iff.1 hq).1; omega, fun i q hq hd => phi_most (h.ok hq) h.i.g (by have := h.i.ranks; omega) h.n0.1⟩
theorem bk_drain (w : World) (B bb : Nat) (l : BkL) (s : BkS) (G : Gb) (h : BkM w B bb l s) (hJ : BkJ s G) (hl : s.all.length ≤ 1048576) : Calls Tryz.prog 16 #[.pointer (some ⟨bb, 0, none⟩)] w fun e w' => e = .returned (.bool true) ∧ Below B w w' ∧ ∃ t, DrQ w B bb l s.N s.all.length (mostN s.N) t 0 w' := by
  have n0 := hJ.n0
  obtain ⟨sp, cp, hv⟩ := h.a.form
  have b9 : w.cell? ⟨bb, 9, none⟩ = some (.slice sp s.all.length cp) := by rw [h.c 9]; show some s.av = _; rw [hv]
  have HD : Hid (DrQ w B bb l s.N s.all.length (mostN s.N) 0 s.all.length w) := hJ.drain h (Below.refl _ _)
  obtain ⟨n, hn⟩ : ∃ n, s.all.length = n := ⟨_, rfl⟩
  obtain ⟨N, hN⟩ : ∃ n, s.N = n := ⟨_, rfl⟩
  obtain ⟨M, hM⟩ : ∃ n, mostN N = n := ⟨_, rfl⟩
  rw [hn, hN] at HD ⊢
  rw [hn] at b9 hl
  rw [hN] at n0
  rw [hM] at HD ⊢
  have M1 : M ≤ 5920 := by
    rw [← hM]
    exact Nat.mul_le_mul (show 3 * N + 2 ≤ 74 by omega) (show 3 * N + 8 ≤ 80 by omega)
  have HMO : Hid (∀ _ : Unit, _) := fun _ => fun (W : World) (b2 : W.cell? ⟨bb, 2, none⟩ = some (.int .i64 (N : Int))) => bk_most W bb N M b2 n0.2 hM
  clear h hJ hv hn hN hM
  go_enter Tryz.func16, Tryz.ntmps16
  go_wp2_with fail
  clear b9
  go_loopw [3, 4] (fun cv tv wr => ∃ c t : Nat, t ≤ M + 1 ∧ tv = .int .i64 (t : Int) ∧ cv = .int .i64 (c : Int) ∧ Hid (DrQ w B bb l N n M t c wr)) (fun _ tv _ => M + 1 - (intOf tv).toNat)
  case atStart => exact ⟨n, 0, by omega, rfl, rfl, HD⟩
  case round =>
    clear HD
    obtain ⟨c, t, ht, rfl, rfl, hI⟩ := hrel
    obtain ⟨hc, hc0, s, G, h1, h2, h4, h5, h6, h7⟩ := hI.out
    have b2 : wr.cell? ⟨bb, 2, none⟩ = some (.int .i64 (N : Int)) := by rw [← h5]; exact (h1.c 2).trans rfl
    have HM : Hid (∀ _ : Unit, _) := fun _ => HMO.out () wr b2
    have HD : Hid (DrQ w B bb l N n M t c wr.drew) := ⟨hc, hc0, s, G, h1.drew, h2, h4.drew, h5, h6, h7⟩
    have t0 : (0 : Int) ≤ (t : Int) := Int.natCast_nonneg _
    have c0 : (0 : Int) ≤ (c : Int) := Int.natCast_nonneg _
    clear h1 h2 h4 h5 h6 h7 hI b2
    go_wp2_with fail
    refine (HM.out ()).mono ?_
    rintro e w2 ⟨rfl, hw2⟩
    rw [hw2]
    clear hw2 w2 HM
    generalize wr.drew = wd at *
    by_cases hg : t ≤ M ∧ 0 < c
    · have t1 : (t : Int) ≤ (M : Int) := by omega
      have c1 : (0 : Int) < (c : Int) := by omega
      have HI : Hid (InQ w B bb l N n M t 0 0 wd) := HD.out.go
      clear HD hc0
      go_wp2_with fail
      go_loopw [3, 5] (fun cv kv wr => ∃ c k : Nat, k ≤ n ∧ kv = .int .i64 (k : Int) ∧ cv = .int .i64 (c : Int) ∧ Hid (InQ w B bb l N n M t k c wr)) (fun _ kv _ => n - (intOf kv).toNat)
      case atStart => exact ⟨0, 0, by omega, rfl, rfl, HI⟩
      case round =>
        clear HI
        obtain ⟨c2, k, hk, rfl, rfl, hI⟩ := hrel
        obtain ⟨s, G, h1, h2, h3, h4, h5, h6, h7, h8⟩ := hI.out
        obtain ⟨sp, cp, hv⟩ := h1.a.form
        rw [h5] at hv
        have c9 : wr.cell? ⟨bb, 9, none⟩ = some (.slice sp n cp) := by rw [h1.c 9]; show some s.av = _; rw [hv]
        have k0 : (0 : Int) ≤ (k : Int) := Int.natCast_nonneg _
        by_cases hkn : k < n
        · have k1 : (k : Int) < (n : Int) := by omega
          obtain ⟨q, hq⟩ : ∃ q, s.all[k]? = some q := ⟨s.all[k]'(by omega), List.getElem?_eq_getElem (by omega)⟩
          obtain ⟨g, cap2, hv2, g0, g1, g2, g3⟩ := h1.ones k q hq
          rw [h5] at hv2
          have e9 : Value.slice sp n cp = .slice (some ⟨g, 0, none⟩) n cap2 := hv.symm.trans hv2
          rw [e9] at c9
          obtain ⟨dn, hdn⟩ : ∃ x, q.o.dn = x := ⟨_, rfl⟩
          have c5 : wr.cell? ⟨g, k * 12 + 5, none⟩ = some (.bool dn) := by rw [← hdn]; exact (h1.cells hv2 k q hq (k * 12) rfl 5 (by decide)).trans rfl
          cases dn with
          | true =>
            have H9 : Hid (InQ w B bb l N n M t (k + 1) c2 wr) := InQ.skip h1 h2 h3 h4 h5 h6 h7 h8 hq hdn
            clear h1 h2 h3 h4 h5 h6 h7 h8 hv hv2 e9 g0 g1 g2 g3 hq hdn hI
            go_wp2
            go_roundw
            case rel => exact ⟨c2, k + 1, by omega, by go_num, rfl, H9⟩
            case measure => simp [intOf]; omega
          | false =>
            have HMV : Hid (∀ _ : Unit, _) := fun _ => bk_move wr B bb l s G k q h1 h2 hq (by omega)
            have HE : Hid (∀ W, (∃ s' G' o', BkM W B bb l s' ∧ Below B wr W ∧ Mvd s G k q.o s' G' o') → InQ w B bb l N n M t (k + 1) (c2 + 1) W) := by
              rintro W ⟨s', G', o', b1, b2, b3⟩
              exact InQ.next h2 h3 h4 h5 h6 h7 h8 hq hdn b1 b2 b3
            have hck : c2 ≤ k := h6
            clear h1 h2 h3 h4 h5 h6 h7 h8 hv hv2 e9 g0 g1 g2 g3 hq hdn hI
            go_wp2_with fail
            refine (HMV.out ()).mono ?_
            rintro e w5 ⟨rfl, hx⟩
            have H9 : Hid (InQ w B bb l N n M t (k + 1) (c2 + 1) w5) := HE.out w5 hx
            clear hx HMV HE c9 c5
            go_wp2
            go_roundw
            case rel => exact ⟨c2 + 1, k + 1, by omega, by go_num, by go_num, H9⟩
            case measure => simp [intOf]; omega
        · have k1 : ¬ (k : Int) < (n : Int) := by omega
          have ek : k = n := by omega
          have H9 : Hid (DrQ w B bb l N n M (t + 1) c2 wr) := by
            have := hI.out
            rw [ek] at this
            exact this.done hg.1
          clear h1 h2 h3 h4 h5 h6 h7 h8 hv hI ek
          go_wp2
          go_roundw
          case rel => exact ⟨c2, t + 1, by omega, by go_num, rfl, H9⟩
          case measure => simp [intOf]; omega
    · have hz : c = 0 := by
        by_cases e : t ≤ M
        · omega
        · exact hc0 (by omega)
      subst hz
      have HF : Hid (Below B w wd ∧ ∃ t, DrQ w B bb l N n M t 0 wd) := by
        obtain ⟨_, _, s, G, _, _, h4, _⟩ := HD.out
        exact ⟨h4, t, HD.out⟩
      clear HD hc0
      by_cases e : t ≤ M
      · have t1 : (t : Int) ≤ (M : Int) := by omega
        go_wp2
        go_ret
        exact ⟨rfl, HF.out⟩
      · have t1 : ¬ (t : Int) ≤ (M : Int) := by omega
        go_wp2
        go_ret
        exact ⟨rfl, HF.out⟩
section
variable {H : Type} {enc : TypeId × Value → H} {W : World}
end
end Go.Proofs.YteekompojgbkhaaGreat

namespace Go.Proofs.YteekompojgbkhaaGreat
set_option linter.unusedSimpArgs false
open Go.ChangeShapes Go.WideShapes Go.ChangeAt Go.RowKit Go.MuLone Go.RwLone
set_option linter.unusedVariables false
set_option maxRecDepth 100000
set_option maxHeartbeats 6400000
section
variable {w w' : World} {B bb : Nat} {l : BkL} {s : BkS} {G : Gb}
/-- Arena and index alone are changed, and what is kept beside them. -/
theorem BkM.ar1 (h : BkM w B bb l s) {S' : AS} {x' : XS} (hc : CH w' l.L l.Q S' l.X x') (k : Keeps (fun g => s.T g = 1) w w') : BkM w' B bb l { s with S := S', x := x' } := by
  have o := h.but 1 k
  exact ⟨hc, o.b (by decide), o.i (by decide), o.r (by decide), o.k (by decide), o.z (by decide), fun j hj => o.v j hj (by omega), o.a (by decide), fun j q hq => ⟨(o.m j q hq).1 (by omega), (o.m j q hq).2.1 (by omega), (o.m j q hq).2.2 (by omega)⟩, h.t1, h.t2, h.t3, h.t4, h.t5, h.t6, h.t7, h.t8, h.t9, o.tl, o.pp (by decide), h.tp⟩
theorem BkJ.arx (h : BkJ s G) {S' : AS} {x' : XS} (hl : Lnk (s.N : Int) (s.nb : Int) S' x' G) (hw : WdOk S' x') (hx : x'.nb = s.x.nb) : BkJ { s with S := S', x := x' } G :=
  ⟨⟨hl, h.i.g, h.i.r, h.i.n, h.i.ok, h.i.ne⟩, h.e1, h.e2, h.e3, h.e4, h.n0, h.n1, hw, fun i q hq e => ⟨(h.mi i q hq e).1.nb hx, (h.mi i q hq e).2⟩, fun i q hq e => (h.mr i q hq e).nb hx, h.mw, h.rw, h.un⟩
end
theorem em_if {c a b : Prop} [Decidable c] (h : c) (ha : a) : Hid (if c then a else b) := by
  show if c then a else b
  rw [if_pos h]
  exact ha
theorem em_ifn {c a b : Prop} [Decidable c] (h : ¬ c) (hb : b) : Hid (if c then a else b) := by
  show if c then a else b
  rw [if_neg h]
  exact hb
/-- All machines are done. -/
def AllD (s : BkS) : Prop := ∀ (i : Nat) (q : OL), s.all[i]? = some q → q.o.dn = true
theorem AllD.on {s : BkS} (h : AllD s) : ∀ (i : Nat) (o : On), (s.all.map OL.o)[i]? = some o → o.dn = true := fun i o ho => by
  rw [List.getElem?_map] at ho
  obtain ⟨q, h1, h2⟩ := Option.map_eq_some_iff.1 ho
  rw [← h2]
  exact h i q h1
/-- What holds between the buckets. -/
def EmQ (w0 : World) (B bb : Nat) (l : BkL) (nb : Nat) (W : World) : Prop := ∃ s G, BkM W B bb l s ∧ BkJ s G ∧ Below B w0 W ∧ s.nb = nb ∧ AllD s
/-- A walk of the law's own, at bucket k whose row is R. -/
def EmS (w0 : World) (B bb : Nat) (l : BkL) (nb k mb : Nat) (R : List Int) (rv : Value) (P : Nat → AS → XS → Gb → MW → Prop) (W : World) : Prop := ∃ s G m, BkM W B bb l s ∧ BkJ s G ∧ Below B w0 W ∧ s.nb = nb ∧ AllD s ∧ s.rows (k : Int) = R ∧ s.rv k = rv ∧ WlkH W mb l.X.x m ∧ s.T mb = 1 ∧ ¬ chF l.L l.X mb ∧ P s.N s.S s.x G m
section
variable {w0 W : World} {B bb nb k mb : Nat} {l : BkL} {R : List Int} {rv : Value} {P P' : Nat → AS → XS → Gb → MW → Prop}
theorem EmS.back (h : EmS w0 B bb l nb k mb R rv P W) : EmQ w0 B bb l nb W := by
  obtain ⟨s, G, m, h1, h2, h3, h4, h5, _⟩ := h
  exact ⟨s, G, h1, h2, h3, h4, h5⟩
theorem EmS.drew (h : EmS w0 B bb l nb k mb R rv P W) : EmS w0 B bb l nb k mb R rv P W.drew := by
  obtain ⟨s, G, m, h1, h2, h3, h4, h5, h6, h7, h8, h9⟩ := h
  exact ⟨s, G, m, h1.drew, h2, h3.drew, h4, h5, h6, h7, h8, h9⟩
theorem EmS.to (h : EmS w0 B bb l nb k mb R rv P W) (k1 : ∀ N S x G m, P N S x G m → P' N S x G m) : EmS w0 B bb l nb k mb R rv P' W := by
  obtain ⟨s, G, m, h1, h2, h3, h4, h5, h6, h7, h8, h9, h10, h11⟩ := h
  exact ⟨s, G, m, h1, h2, h3, h4, h5, h6, h7, h8, h9, h10, k1 _ _ _ _ _ h11⟩
theorem EmS.slot (h : EmS w0 B bb l nb k mb R rv P W) (v : Int) (hv : ∀ N S x G m, P N S x G m → m.slot = v) : Calls Tryz.prog 21 #[.pointer (some ⟨mb, 0, none⟩)] W fun e w' => e = .returned (.int .i64 v) ∧ w' = W := by
  obtain ⟨s, G, m, h1, h2, h3, h4, h5, h6, h7, h8, h9, h10, h11⟩ := h
  have := wlk_Slot W mb l.X.x m h8
  rw [hv _ _ _ _ _ h11] at this
  exact this
theorem EmS.ended (h : EmS w0 B bb l nb k mb R rv P W) (v : Bool) (hv : ∀ N S x G m, P N S x G m → m.ended = v) : Calls Tryz.prog 22 #[.pointer (some ⟨mb, 0, none⟩)] W fun e w' => e = .returned (.bool v) ∧ w' = W := by
  obtain ⟨s, G, m, h1, h2, h3, h4, h5, h6, h7, h8, h9, h10, h11⟩ := h
  have := wlk_Ended W mb l.X.x m h8
  rw [hv _ _ _ _ _ h11] at this
  exact this
/-- What is known where the walk steps. -/
structure EmF (N nb k : Nat) (S : AS) (x : XS) (G : Gb) (R : List Int) : Prop where
  l : Lnk (N : Int) (nb : Int) S x G
  g : GbInv (N : Int) (nb : Int) (bkO nb) G
  n : N ≤ 24
  r : G.ranks ≤ 4096
  k0 : (0 : Int) ≤ (k : Int)
  k1 : (k : Int) < (nb : Int)
  h : lkL (N : Int) G.W 4097 (G.H (k : Int) / 2) = R
  u : ∀ u, u ∈ R → G.rem u ≠ 2
theorem emF {s : BkS} {G : Gb} (j : BkJ s G) (hd : AllD s) (k : Nat) (hk : k < s.nb) : EmF s.N s.nb k s.S s.x G (s.rows (k : Int)) := by
  have n0 := j.n0
  have k1 : (k : Int) < (s.nb : Int) := by omega
  have hr := j.i.ranks
  exact ⟨j.i.l, j.i.g, n0.2, by omega, Int.natCast_nonneg _, k1, j.un.row j.i (by omega) hd.on (k : Int) (Int.natCast_nonneg _) k1, fun u hu => (((j.i.r (k : Int) (Int.natCast_nonneg _) k1).1 u).1 hu).2⟩
/-- A step. -/
theorem EmS.step (h : EmS w0 B bb l nb k mb R rv P W) (hk : k < nb) (r : Bool) (hP : ∀ N S x G m, EmF N nb k S x G R → P N S x G m → ∃ S' x' m', wlkP S x m = (r, ⟨S', x'⟩, m') ∧ Lnk (N : Int) (nb : Int) S' x' G ∧ P' N S' x' G m') : Calls Tryz.prog 20 #[.pointer (some ⟨mb, 0, none⟩)] W fun e w' => e = .returned (.bool r) ∧ EmS w0 B bb l nb k mb R rv P' w' := by
  obtain ⟨s, G, m, h1, h2, h3, h4, h5, h6, h7, h8, h9, h10, h11⟩ := h
  subst h4
  subst h6
  obtain ⟨S', x', m', e1, e2, e3⟩ := hP _ _ _ _ _ (emF h2 h5 k hk) h11
  have kw := wlk_wd s.S s.x m h2.wd
  have hs := wlk_step W l.L l.Q s.S l.X s.x mb m h1.ch h8 h10 h2.wd
  rw [e1] at hs kw
  refine hs.mono ?_
  rintro e w' ⟨rfl, a1, a2, a3⟩
  have k1 : Keeps (fun g => s.T g = 1) W w' := a3.mono (fun g hg => by
    rcases hg with hg | hg
    · exact h1.t1 g hg
    · rw [hg]; exact h9)
  refine ⟨rfl, { s with S := S', x := x' }, G, m', h1.ar1 a1 k1, h2.arx e2 kw.1 kw.2, h3.trans (h1.bel a3 (fun g hg => .inl ?_)), rfl, h5, rfl, h7, a2, h9, h10, e3⟩
  rcases hg with hg | hg
  · rw [h1.t1 g hg]; decide
  · rw [hg, h9]; decide
/-- A walk begins. -/
theorem EmQ.walk {s : BkS} {G : Gb} (h1 : BkM W B bb l s) (h2 : BkJ s G) (h3 : Below B w0 W) (hd : AllD s) (k : Nat) : Calls Tryz.prog 19 #[.pointer (some ⟨l.X.x, 0, none⟩), .int .i64 (k : Int)] W fun e w' => ∃ mb, e = .returned (.pointer (some ⟨mb, 0, none⟩)) ∧ EmS w0 B bb l s.nb k mb (s.rows (k : Int)) (s.rv k) (fun N S x G m => m = ⟨0, (k : Int), 0, 0, 0, false, 0⟩) w' := by
  refine (wlk_newWalk W l.X.x (k : Int)).mono ?_
  rintro e w' ⟨rfl, a1, a2, a3⟩
  have hB := h1.hB
  have b1 := h1.noC a2
  have t0 : s.T W.heap.size = 0 := h1.new0 _ (Nat.le_refl _)
  have nc : ¬ chF l.L l.X W.heap.size := fun e => by
    have := h1.t1 _ e
    omega
  refine ⟨_, rfl, { s with T := updN s.T W.heap.size 1 }, G, _, b1.tag _ 1 t0 hB (by omega), h2.T _, h3.trans (a2.below hB (fun _ _ e => e)), rfl, hd, rfl, rfl, a1, updN_at _ _ _, nc, rfl⟩
theorem EmS.rd (h : EmS w0 B bb l nb k mb R rv P W) (hk : k < nb) : W.cell? ⟨bb, 8, none⟩ = some (.slice (some ⟨l.wb, 0, none⟩) nb l.wc) ∧ W.cell? ⟨l.wb, k, none⟩ = some rv ∧ OwI W B rv R := by
  obtain ⟨s, G, m, h1, h2, h3, h4, h5, h6, h7, h8⟩ := h
  subst h4
  subst h6
  subst h7
  exact ⟨(h1.c 8).trans rfl, h1.z.c k hk, (h1.v k hk).1⟩
end
/-- The walk has come to R's i-th slot. -/
abbrev pAt (nb k : Nat) (xs : List Int) : Nat → AS → XS → Gb → MW → Prop := fun N S x G m => WkAt N (bkO nb) G (k : Int) m xs
abbrev pNw (k : Nat) : Nat → AS → XS → Gb → MW → Prop := fun N S x G m => m = ⟨0, (k : Int), 0, 0, 0, false, 0⟩
abbrev pSt (nb k : Nat) (sl : Int) (en : Bool) (xs : List Int) : Nat → AS → XS → Gb → MW → Prop := fun N S x G m => m.slot = sl ∧ m.ended = en ∧ WkAt N (bkO nb) G (k : Int) m xs
section
variable {nb k : Nat} {R : List Int}
theorem em_first : ∀ N S x G m, EmF N nb k S x G R → pNw k N S x G m → ∃ S' x' m', wlkP S x m = (decide (R = []), ⟨S', x'⟩, m') ∧ Lnk (N : Int) (nb : Int) S' x' G ∧ pSt nb k 0 (decide (R = [])) R N S' x' G m' := by
  intro N S x G m f hm
  have hm : m = _ := hm
  subst hm
  obtain ⟨m', e1, e2, e3, e4⟩ := wk_first (N := N) f.l f.g (by have := f.n; omega) (k : Int) f.k0 f.k1 R f.h
  exact ⟨_, _, m', e1, f.l.cn, e2, e3, e4⟩
theorem em_next (u : Int) (ys : List Int) (hu : u ∈ R) : ∀ N S x G m, EmF N nb k S x G R → pAt nb k (u :: ys) N S x G m → ∃ S' x' m', wlkP S x m = (true, ⟨S', x'⟩, m') ∧ Lnk (N : Int) (nb : Int) S' x' G ∧ pSt nb k u (decide (ys = [])) ys N S' x' G m' := by
  intro N S x G m f hm
  obtain ⟨m', e1, e2, e3, e4⟩ := wk_next (N := N) f.l f.g (by have := f.n; omega) f.r (k : Int) f.k0 m u ys hm (f.u u hu)
  exact ⟨_, _, m', e1, f.l.acc, e2, e3, e4⟩
theorem em_last : ∀ N S x G m, EmF N nb k S x G R → pAt nb k [] N S x G m → ∃ S' x' m', wlkP S x m = (true, ⟨S', x'⟩, m') ∧ Lnk (N : Int) (nb : Int) S' x' G ∧ (fun (N : Nat) (S : AS) (x : XS) (G : Gb) (m : MW) => m.slot = 0 ∧ m.ended = true) N S' x' G m' := by
  intro N S x G m f hm
  obtain ⟨m', e1, e2, e3⟩ := wk_end (S := S) (x := x) (k : Int) m hm
  exact ⟨_, _, m', e1, f.l, e2, e3⟩
end
theorem chainEmptied_walk (w : World) (pa pb : Int) (ao : Option Addr) (cap : Nat) (ms : List (Int × Int)) (hin : InG mvC w w.heap.size (.slice ao ms.length cap) ms) (hl : ms.length ≤ 524288) (hbd : ∀ o ∈ ms, i64ok o.1 ∧ i64ok o.2) (ha : i64ok pa) (hb : i64ok pb) : Calls Tryz.prog 7 #[.agg #[.int .i64 pa, .int .i64 pb, .slice ao ms.length cap]] w fun e w' => e = .returned (.bool true) ∧ Below w.heap.size w w' := by
  have g1 := heap_alloc_new w (.cells #[.int .i64 pa, .int .i64 pb, .slice ao ms.length cap] 24)
  obtain ⟨W1, hW1⟩ : ∃ W, w.alloc (.cells #[.int .i64 pa, .int .i64 pb, .slice ao ms.length cap] 24) = W := ⟨_, rfl⟩
  rw [hW1] at g1
  have hb1 : Below w.heap.size w W1 := by rw [← hW1]; exact (Below.refl _ _).alloc (Nat.le_refl _) _
  have hsz : W1.heap.size = w.heap.size + 1 := by rw [← hW1]; simp
  have o0 : W1.cell? ⟨w.heap.size, 0, none⟩ = some (.int .i64 pa) := (cell?_heap g1 0).trans rfl
  have o1 : W1.cell? ⟨w.heap.size, 0 + 1, none⟩ = some (.int .i64 pb) := (cell?_heap g1 1).trans rfl
  have o2 : W1.cell? ⟨w.heap.size, 0 + 1 + 1, none⟩ = some (.slice ao ms.length cap) := (cell?_heap g1 2).trans rfl
  have H1 : Hid (Below w.heap.size w W1 ∧ W1.heap[w.heap.size]? = some (.cells #[.int .i64 pa, .int .i64 pb, .slice ao ms.length cap] 24) ∧ InG mvC W1 W1.heap.size (.slice ao ms.length cap) ms ∧ W1.heap.size = w.heap.size + 1) := ⟨hb1, g1, (hin.later hb1).up hb1.size, hsz⟩
  have HBD : Hid (∀ o ∈ ms, i64ok o.1 ∧ i64ok o.2) := hbd
  have HL : Hid (ms.length ≤ 524288) := hl
  have HA : Hid (∀ _ : Unit, _) := fun _ => bk_begin W1 pa pb ao ms.length cap ha hb
  clear hin g1 hb1 hsz hl hbd ha hb
  go_enter Tryz.func7, Tryz.ntmps7
  go_wp2_with fail
  clear hW1
  refine (HA.out ()).mono ?_
  rintro e w2 ⟨bb, rfl, l, N, nb, hP, hpk⟩
  have hb2 := hP.below
  have hlt : w.heap.size < W1.heap.size := by have := H1.out.2.2.2; omega
  have p0 : w2.cell? ⟨w.heap.size, 0, none⟩ = some (.int .i64 pa) := (hb2.cell (p := ⟨w.heap.size, 0, none⟩) hlt).trans o0
  have p1 : w2.cell? ⟨w.heap.size, 0 + 1, none⟩ = some (.int .i64 pb) := (hb2.cell (p := ⟨w.heap.size, 0 + 1, none⟩) hlt).trans o1
  have p2 : w2.cell? ⟨w.heap.size, 0 + 1 + 1, none⟩ = some (.slice ao ms.length cap) := (hb2.cell (p := ⟨w.heap.size, 0 + 1 + 1, none⟩) hlt).trans o2
  have H2 : Hid (Below w.heap.size w w2) := H1.out.1.trans (hb2.mono H1.out.1.size)
  have HP : Hid (∀ _ : Unit, _) := fun _ => bk_play w2 W1.heap.size bb l N nb 0 pa pb ao cap ms false false hP.base (H1.out.2.2.1.later hb2) HL.out (by have := HL.out; omega) HBD.out (fun x _ => by rw [hpk])
  clear hP hpk hb2 hlt o0 o1 o2 HA HBD
  go_wp2_with fail
  refine (HP.out ()).mono ?_
  rintro e w3 ⟨rfl, s, G, h1, h2, h3, h4, h5, h6⟩
  have HDR : Hid (∀ _ : Unit, _) := fun _ => bk_drain w3 W1.heap.size bb l s G h1 h2 (by have := HL.out; omega)
  have H3 : Hid (Below W1.heap.size w2 w3) := h3
  clear h1 h2 h3 h4 h5 h6 HP p0 p1 p2
  go_wp2_with fail
  refine (HDR.out ()).mono ?_
  rintro e w4 ⟨rfl, h4, t4, d4⟩
  obtain ⟨nbz, hq4⟩ : ∃ nb, EmQ w2 W1.heap.size bb l nb w4 := by
    obtain ⟨_, _, s, G, h1, h2, h3, h4, h5, h6, _⟩ := d4
    exact ⟨s.nb, s, G, h1, h2, H3.out.trans h3, rfl, h6 rfl⟩
  have hnb4 : nbz ≤ 4 := by
    obtain ⟨s, G, h1, h2, h3, h4, _⟩ := hq4
    have := h2.n1
    omega
  have HQ4 : Hid (EmQ w2 W1.heap.size bb l nbz w4) := hq4
  clear hq4 h4 d4 HDR H3
  go_wp2_with fail
  go_loopw [5] (fun kv wr => ∃ k : Nat, k ≤ nbz ∧ kv = .int .i64 (k : Int) ∧ Hid (EmQ w2 W1.heap.size bb l nbz wr)) (fun kv _ => nbz - (intOf kv).toNat)
  case atStart => exact ⟨0, by omega, rfl, HQ4⟩
  case round =>
    clear HQ4
    obtain ⟨k, hk, rfl, hI⟩ := hrel
    obtain ⟨s, G, h1, h2, h3, h4, h5⟩ := hI.out
    have k0 : (0 : Int) ≤ (k : Int) := Int.natCast_nonneg _
    have b3 : wr.cell? ⟨bb, 3, none⟩ = some (.int .i64 (nbz : Int)) := by rw [← h4]; exact (h1.c 3).trans rfl
    by_cases hkn : k < nbz
    · have k1 : (k : Int) < (nbz : Int) := by omega
      have b1 : wr.cell? ⟨bb, 1, none⟩ = some (.pointer (some ⟨l.X.x, 0, none⟩)) := (h1.c 1).trans rfl
      have hks : k < s.nb := by omega
      have hxb : k < s.x.nb := by have := h2.i.l.b; omega
      have hsn := h2.i.l.n
      have n0 := h2.n0
      have HHE : Hid (∀ _ : Unit, _) := fun _ => ix_held wr l.L l.Q s.S l.X s.x k hxb h1.ch h2.wd (by omega)
      have hlen := h2.un.held h2.i (by omega) h5.on k (by omega)
      have HL2 : Hid ((rowX s.S s.x k).length = (s.rows (k : Int)).length) := hlen
      have HS : Hid (BkM wr W1.heap.size bb l s ∧ BkJ s G ∧ Below W1.heap.size w2 wr ∧ s.nb = nbz ∧ AllD s) := ⟨h1, h2, h3, h4, h5⟩
      clear h1 h2 h3 h4 h5 hI hxb hsn n0 hlen
      go_wp2_with fail
      refine (HHE.out ()).mono ?_
      rintro e w5 ⟨rfl, c5, k5⟩
      rw [HL2.out]
      have HB5 : Hid (BkM w5 W1.heap.size bb l s ∧ Below W1.heap.size wr w5) := ⟨HS.out.1.same c5 (k5.mono (fun g hg => .inl hg)), HS.out.1.bel k5 (fun g hg => .inl (by rw [HS.out.1.t1 g (.inl hg)]; decide))⟩
      obtain ⟨R, hR⟩ : ∃ R, s.rows (k : Int) = R := ⟨_, rfl⟩
      obtain ⟨n, hn⟩ : ∃ n, R.length = n := ⟨_, rfl⟩
      have hv5 := (HB5.out.1.v k hks).1
      rw [hR] at hv5 ⊢
      obtain ⟨ra, rc, hrv⟩ := OwG.form hv5
      rw [hn] at hrv ⊢
      have hn24 : n ≤ 4096 := by
        have := (HS.out.2.1.rw (k : Int)).len
        have := HS.out.2.1.n0
        rw [hR, hn] at *
        omega
      have c8 : w5.cell? ⟨bb, 8, none⟩ = some (.slice (some ⟨l.wb, 0, none⟩) nbz l.wc) := by rw [← HS.out.2.2.2.1]; exact (HB5.out.1.c 8).trans rfl
      have cw : w5.cell? ⟨l.wb, k, none⟩ = some (.slice ra n rc) := by rw [← hrv]; exact HB5.out.1.z.c k hks
      have HRW : Hid (∀ _ : Unit, _) := fun _ => bk_row w5 W1.heap.size bb l s G k HB5.out.1 HS.out.2.1 hks
      have HR : Hid (s.rows (k : Int) = R ∧ s.rv k = .slice ra n rc ∧ R.length = n) := ⟨hR, hrv, hn⟩
      clear c5 k5 HHE HL2 hv5 hrv hR b1 hn
      go_wp2_with fail
      refine (bk_num 0 _).mono ?_
      rintro e w6 ⟨rfl, hw6⟩
      rw [hw6]
      clear hw6 w6
      go_wp2_with fail
      refine (HRW.out ()).mono ?_
      rintro e w7 ⟨rfl, b7, l7⟩
      have b1 : w7.cell? ⟨bb, 1, none⟩ = some (.pointer (some ⟨l.X.x, 0, none⟩)) := (b7.c 1).trans rfl
      have HW : Hid (∀ _ : Unit, _) := fun _ => EmQ.walk b7 HS.out.2.1 ((HS.out.2.2.1.trans HB5.out.2).trans l7) HS.out.2.2.2.2 k
      clear b7 l7 c8 cw HRW
      go_wp2_with fail
      refine (HW.out ()).mono ?_
      rintro e w8 ⟨mb, rfl, h8⟩
      rw [HS.out.2.2.2.1, HR.out.1, HR.out.2.1] at h8
      have HN : Hid (R.length = n) := HR.out.2.2
      have H8 : Hid (EmS w2 W1.heap.size bb l nbz k mb R (.slice ra n rc) (pNw k) w8) := h8
      clear h8 HW HR HB5 HS hks b1
      have n00 : (0 : Int) ≤ (n : Int) := Int.natCast_nonneg _
      go_upto_region 11 with fail
      go_cut [86] (fun v wx => v = .bool false ∧ Hid (if n = 0 then EmS w2 W1.heap.size bb l nbz k mb R (.slice ra n rc) (pNw k) wx else EmS w2 W1.heap.size bb l nbz k mb R (.slice ra n rc) (pAt nbz k R) wx))
      case first =>
        by_cases hz : n = 0
        · subst hz
          go_wp2_with fail
          go_meet
          case rel =>
            refine ⟨rfl, ?_⟩
            exact em_if (by trivial) H8.out
        · have n1 : (0 : Int) < (n : Int) := by omega
          have HST : Hid (∀ _ : Unit, _) := fun _ => H8.out.step (P' := pSt nbz k 0 false R) hkn false (fun N S x G m f hm => by
            have := em_first N S x G m f hm
            have e : decide (R = []) = false := decide_eq_false (fun e => hz (by rw [← HN.out, e]; rfl))
            rw [e] at this
            exact this)
          go_wp2_with fail
          refine (HST.out ()).mono ?_
          rintro e w9 ⟨rfl, h9⟩
          have H9 : Hid (EmS w2 W1.heap.size bb l nbz k mb R (.slice ra n rc) (pSt nbz k 0 false R) w9) := h9
          have HSL : Hid (∀ _ : Unit, _) := fun _ => H9.out.slot 0 (fun _ _ _ _ _ h => h.1)
          have HEN : Hid (∀ _ : Unit, _) := fun _ => H9.out.ended false (fun _ _ _ _ _ h => h.2.1)
          clear h9 HST H8
          go_wp2_with fail
          refine (HSL.out ()).mono ?_
          rintro e wa ⟨rfl, ha⟩
          rw [ha]
          clear ha wa HSL
          go_wp2_with fail
          refine (HEN.out ()).mono ?_
          rintro e wa ⟨rfl, ha⟩
          rw [ha]
          clear ha wa HEN
          go_wp2_with fail
          go_meet
          case rel =>
            refine ⟨rfl, ?_⟩
            exact em_ifn hz (H9.out.to (fun _ _ _ _ _ h => h.2.2))
      case rest =>
        have HC : Hid (if n = 0 then EmS w2 W1.heap.size bb l nbz k mb R (.slice ra n rc) (pNw k) wc else EmS w2 W1.heap.size bb l nbz k mb R (.slice ra n rc) (pAt nbz k R) wc) := hcut.2
        obtain ⟨rfl, -⟩ := hcut
        clear H8
        go_wp2_with fail
        go_loopw [9] (fun iv wr => ∃ i : Nat, i ≤ n ∧ iv = .int .i64 (i : Int) ∧ Hid (if n = 0 then EmS w2 W1.heap.size bb l nbz k mb R (.slice ra n rc) (pNw k) wr else EmS w2 W1.heap.size bb l nbz k mb R (.slice ra n rc) (pAt nbz k (R.drop i)) wr)) (fun iv _ => n - (intOf iv).toNat)
        case atStart => exact ⟨0, by omega, rfl, HC⟩
        case round =>
          clear HC
          obtain ⟨i, hi, rfl, hI⟩ := hrel
          have i0 : (0 : Int) ≤ (i : Int) := Int.natCast_nonneg _
          by_cases hin : i < n
          · have i1 : (i : Int) < (n : Int) := by omega
            have nz : ¬ n = 0 := by omega
            have hI2 : EmS w2 W1.heap.size bb l nbz k mb R (.slice ra n rc) (pAt nbz k (R.drop i)) wr := by
              have := hI.out
              rw [if_neg nz] at this
              exact this
            have hiR : i < R.length := by rw [HN.out]; exact hin
            have hdr : R.drop i = R[i] :: R.drop (i + 1) := List.drop_eq_getElem_cons hiR
            obtain ⟨u, hu⟩ : ∃ u, R[i] = u := ⟨_, rfl⟩
            have hmem : u ∈ R := by rw [← hu]; exact List.getElem_mem hiR
            rw [hdr, hu] at hI2
            obtain ⟨en, hen⟩ : ∃ x, decide (R.drop (i + 1) = []) = x := ⟨_, rfl⟩
            have hen2 : ((i : Int) == (n : Int) - 1) = en := by
              rw [← hen]
              by_cases e : i + 1 = n
              · rw [decide_eq_true (by rw [List.drop_eq_nil_iff, HN.out]; omega)]
                exact beq_iff_eq.2 (by omega)
              · rw [decide_eq_false (fun e2 => e (by rw [List.drop_eq_nil_iff, HN.out] at e2; omega))]
                exact beq_eq_false_iff_ne.2 (by omega)
            have r8 := hI2.drew.rd hkn
            obtain ⟨g, hg⟩ : ∃ g, ra = some ⟨g, 0, none⟩ := by
              obtain ⟨g, cap', e1, _⟩ := owG_some r8.2.2 (by intro e; rw [e] at hiR; simp at hiR)
              injection e1 with e1
              exact ⟨g, e1⟩
            have rd : ∀ P W, EmS w2 W1.heap.size bb l nbz k mb R (.slice ra n rc) P W → W.cell? ⟨bb, 8, none⟩ = some (.slice (some ⟨l.wb, 0, none⟩) nbz l.wc) ∧ W.cell? ⟨l.wb, k, none⟩ = some (.slice (some ⟨g, 0, none⟩) n rc) ∧ W.cell? ⟨g, i, none⟩ = some (.int .i64 u) := fun P W h => by
              have r9 := h.rd hkn
              refine ⟨r9.1, by rw [← hg]; exact r9.2.1, ?_⟩
              have o := r9.2.2
              rw [hg] at o
              have := ow_at (f := fun x => .int .i64 x) (cs := inZ) (fun xs => flat_inZ xs) o i hiR
              rw [this, hu]
            have HRD : Hid (∀ _ : Unit, _) := fun _ => rd
            have sx := rd _ _ hI2.drew
            have HST : Hid (∀ _ : Unit, _) := fun _ => hI2.drew.step (P' := pSt nbz k u en (R.drop (i + 1))) hkn true (fun N S x G m f hm => by
              have := em_next u (R.drop (i + 1)) hmem N S x G m f hm
              rw [hen] at this
              exact this)
            have hwn : IntKind.i64.wrap ((n : Int) - 1) = (n : Int) - 1 := by rw [IntKind.wrap_i64]; omega
            clear hI2 hdr hu hmem hen hI r8 rd hiR
            go_wp2_with fail
            (refine wp_region_held_drew (S := (fun Z => Z.cell? ⟨bb, 8, none⟩ = some (.slice (some ⟨l.wb, 0, none⟩) nbz l.wc) ∧ Z.cell? ⟨l.wb, k, none⟩ = some (.slice (some ⟨g, 0, none⟩) n rc) ∧ Z.cell? ⟨g, i, none⟩ = some (.int .i64 u))) (by kernel_rfl) sx (fun hHeld => ?_); simp only [List.size_toArray, List.length_cons, List.length_nil, Nat.reduceAdd, Array.replicate_succ, Array.replicate_zero, List.push_toArray, List.append_toArray, List.nil_append, List.cons_append])
            clear sx
            refine rgT 0 (h := ?_)
            (refine rgS 1 (h := fun K hK => ?_); go_simp)
            refine (HST.out ()).mono ?_
            rintro e w9 ⟨rfl, h9⟩
            have s9 := HRD.out () _ w9 h9
            have H9 : Hid (EmS w2 W1.heap.size bb l nbz k mb R (.slice ra n rc) (pSt nbz k u en (R.drop (i + 1))) w9) := h9
            have HSL : Hid (∀ _ : Unit, _) := fun _ => H9.out.slot u (fun _ _ _ _ _ h => h.1)
            have HEN : Hid (∀ _ : Unit, _) := fun _ => H9.out.ended en (fun _ _ _ _ _ h => h.2.1)
            clear h9 HST HRD
            (refine hK.out _ _ s9 (fun hHeld => ?_); clear hK K; try simp only [Act.put, List.setIfInBounds_toArray, List.set_cons_zero, List.set_cons_succ])
            clear s9
            refine rgT 2 (h := ?_)
            refine rgT 3 (h := ?_)
            refine rgT 4 (h := ?_)
            refine rgT 6 (h := ?_)
            refine rgT 7 (h := ?_)
            refine rgT 8 (h := ?_)
            refine rgT 9 (h := ?_)
            refine rgT 10 (h := ?_)
            refine rgT 11 (h := ?_)
            refine rgT 12 (h := ?_)
            refine rgT 13 (h := ?_)
            refine rgT 14 (h := ?_)
            refine rgT 15 (h := ?_)
            (refine rgS 5 (h := fun K hK => ?_); go_simp)
            refine (HSL.out ()).mono ?_
            rintro e wa ⟨rfl, ha⟩
            rw [ha]
            clear ha wa HSL
            (refine hK.out _ _ hHeld (fun hHeld => ?_); clear hK K; try simp only [Act.put, List.setIfInBounds_toArray, List.set_cons_zero, List.set_cons_succ])
            refine rgT 16 (h := ?_)
            refine rgT 17 (h := ?_)
            refine rgT 18 (h := ?_)
            refine rgT 19 (h := ?_)
            refine rgT 21 (h := ?_)
            refine rgT 22 (h := ?_)
            refine rgT 23 (h := ?_)
            refine rgT 24 (h := ?_)
            (refine rgS 20 (h := fun K hK => ?_); go_simp)
            refine (HEN.out ()).mono ?_
            rintro e wa ⟨rfl, ha⟩
            rw [ha]
            clear ha wa HEN
            (refine hK.out _ _ hHeld (fun hHeld => ?_); clear hK K; try simp only [Act.put, List.setIfInBounds_toArray, List.set_cons_zero, List.set_cons_succ])
            refine rgT 25 (h := ?_)
            refine rgT 26 (h := ?_)
            refine wpAnyH_done (by kernel_rfl) ?_ _
            clear hHeld
            have HX : Hid (if n = 0 then EmS w2 W1.heap.size bb l nbz k mb R (.slice ra n rc) (pNw k) w9 else EmS w2 W1.heap.size bb l nbz k mb R (.slice ra n rc) (pAt nbz k (R.drop (i + 1))) w9) := em_ifn nz (H9.out.to (fun _ _ _ _ _ h => h.2.2))
            clear H9
            go_wp2
            go_roundw
            case rel => exact ⟨i + 1, by omega, by go_num, HX⟩
            case measure => simp [intOf]; omega
          · have i1 : ¬ (i : Int) < (n : Int) := by omega
            have ei : i = n := by omega
            subst ei
            have HST : Hid (∀ _ : Unit, Calls Tryz.prog 20 #[.pointer (some ⟨mb, 0, none⟩)] wr fun e w' => e = .returned (.bool true) ∧ EmS w2 W1.heap.size bb l nbz k mb R (.slice ra i rc) (fun _ _ _ _ m => m.slot = 0 ∧ m.ended = true) w') := fun _ => by
              have h := hI.out
              by_cases hz : i = 0
              · rw [if_pos hz] at h
                refine h.step hkn true (fun N S x G m f hm => ?_)
                have e : R = [] := List.eq_nil_of_length_eq_zero (HN.out.trans hz)
                obtain ⟨S', x', m', e1, e2, e3⟩ := em_first N S x G m f hm
                rw [decide_eq_true e] at e1
                exact ⟨S', x', m', e1, e2, e3.1, e3.2.1.trans (decide_eq_true e)⟩
              · rw [if_neg hz] at h
                refine h.step hkn true (fun N S x G m f hm => ?_)
                have hm : WkAt N (bkO nbz) G (k : Int) m (R.drop i) := hm
                rw [List.drop_of_length_le (Nat.le_of_eq HN.out)] at hm
                exact em_last N S x G m f hm
            clear hI
            go_wp2_with fail
            refine (HST.out ()).mono ?_
            rintro e w9 ⟨rfl, h9⟩
            have H9 : Hid (EmS w2 W1.heap.size bb l nbz k mb R (.slice ra i rc) (fun _ _ _ _ m => m.slot = 0 ∧ m.ended = true) w9) := h9
            have HSL : Hid (∀ _ : Unit, _) := fun _ => H9.out.slot 0 (fun _ _ _ _ _ h => h.1)
            have HEN : Hid (∀ _ : Unit, _) := fun _ => H9.out.ended true (fun _ _ _ _ _ h => h.2)
            clear h9 HST
            go_wp2_with fail
            refine (HSL.out ()).mono ?_
            rintro e wa ⟨rfl, ha⟩
            rw [ha]
            clear ha wa HSL
            go_wp2_with fail
            refine (HEN.out ()).mono ?_
            rintro e wa ⟨rfl, ha⟩
            rw [ha]
            clear ha wa HEN
            have HQ9 : Hid (EmQ w2 W1.heap.size bb l nbz w9) := H9.out.back
            clear H9
            go_wp2
            go_roundw
            case rel => exact ⟨k + 1, by omega, by go_num, HQ9⟩
            case measure => simp [intOf]; omega
    · have k1 : ¬ (k : Int) < (nbz : Int) := by omega
      have HF : Hid (Below w.heap.size w wr) := H2.out.trans (h3.mono H1.out.1.size)
      clear h1 h2 h3 h4 h5 hI H1 H2
      go_wp2
      go_ret
      exact ⟨rfl, HF.out⟩
section
variable {H : Type} {enc : TypeId × Value → H} {W : World}
theorem chainEmptied_open {f0 : Nat} {c0 : Array Value} {x0 : DataW H × List MemPlace} (h0 : DataW.trod enc Tryz.prog W 0 (fun _ => true) true f0 24 c0.toList = some x0) (b0 : Rows.uptoBulk x0.1 ≤ 1048576) :
    Calls Tryz.prog 7 #[.agg c0] W fun e w' => e = .returned (.bool true) ∧ Below W.heap.size W w' := by
  obtain ⟨pa, pb, ao, cap, ms, e0, g0, l0, k0, wa, wb⟩ := open_pn h0 b0
  obtain rfl : c0 = #[.int .i64 pa, .int .i64 pb, .slice ao ms.length cap] := by cases c0; simp_all
  exact chainEmptied_walk W pa pb ao cap ms g0 l0 k0 wa wb
end
end Go.Proofs.YteekompojgbkhaaGreat
