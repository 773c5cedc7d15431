import Derived.Test.YtegnmflbbpfdhaaGreatSdN
namespace Go.Proofs.YtegnmflbbpfdhaaGreat
open Go.ChangeShapes Go.WideShapes Go.ChangeAt Go.RowKit Go.MuLone Go.RwLone
set_option linter.unusedVariables false
set_option maxRecDepth 100000
set_option maxHeartbeats 3200000
/-- A row of picks in a block from B on. -/
def PkS (w : World) (A : Ad) (v : Value) (vs : List (Int × Int × Int)) : Prop :=
  ∃ ao cap, v = .slice ao vs.length cap ∧ vs.length ≤ 140737488355328 ∧ (∀ p ∈ vs, p.2.2 ≤ 9223372036854775807) ∧ ∀ i (hi : i < vs.length), ∃ b off c f, ao = some ⟨b, off, none⟩ ∧ A.B ≤ b ∧ w.heap[b]? = some (.cells c 113 f) ∧ c[off + i * 3]? = some (.int .i64 vs[i].1) ∧ c[off + i * 3 + 1]? = some (.int .i64 vs[i].2.1) ∧ c[off + i * 3 + 2]? = some (.int .i64 vs[i].2.2)
theorem PkS.fm {w w' : World} {A : Ad} {v : Value} {vs : List (Int × Int × Int)} (h : PkS w A v vs) (k : Fm A w w') : PkS w' A v vs := by
  obtain ⟨ao, cap, e, h1, h2, h3⟩ := h
  refine ⟨ao, cap, e, h1, h2, fun i hi => ?_⟩
  obtain ⟨b, off, c, f, e1, e2, e3, e4⟩ := h3 i hi
  exact ⟨b, off, c, f, e1, e2, (k.f b c _ f e2 e3 (by decide) (by decide) (by decide)).trans e3, e4⟩
theorem cell?_heapF {w : World} {k : Nat} {c : Array Value} {t : TypeId} {f : Nat × Nat} (h : w.heap[k]? = some (.cells c t f)) (j : Nat) : w.cell? ⟨k, j, none⟩ = c[j]? := by simp [World.cell?, h]
abbrev plW (w : World) (A : Ad) (bd : Nat) : World := w.alloc (.cells #[.pointer (some ⟨A.hb, 0, none⟩), .int .i64 (bd : Int)] 163)
theorem play_any (w : World) (A : Ad) (x0 : Int) (dn : Nat → Bool) (hA : Ly A) (h : Bn w A x0 dn) (h0 : 0 ≤ x0) (h1 : x0 < 18446744073709551616) (bd : Nat) (hl : left dn A.n ≤ bd) (hm : bd ≤ 1000000) (v : Value) (vs : List (Int × Int × Int)) (hv : PkS w A v vs) :
    Calls Tryz.prog 41 #[.pointer (some ⟨A.hb, 0, none⟩), .int .i64 (bd : Int), v] w fun e w' => ∃ r dn', e = .returned (.tuple #[.int .i64 r, .int .i64 0]) ∧ Bn w' A x0 dn' ∧ Fm A w w' ∧ (∀ i, dn i = true → dn' i = true) ∧ ((∃ p ∈ vs, p.1 = 6) → ∀ i, i < A.n → dn' i = true) := by
  have HP : Hid (Pl (plW w A bd) A x0 w.heap.size bd dn ∧ Fm A w (plW w A bd)) := ⟨⟨h.still hA ((Keeps.refl _ _).alloc _), heap_alloc_last _ _ _ rfl, h.size, hl, hm⟩, Fm.still ((Keeps.refl _ _).alloc _)⟩
  have HA : Hid (Ly A) := hA
  have HV : Hid (PkS w A v vs) := hv
  obtain ⟨ao, cap, rfl, hlen, hnn, -⟩ := hv
  have HN : Hid (∀ p ∈ vs, p.2.2 ≤ 9223372036854775807) := hnn
  have hb0 : ¬ (bd : Int) < 0 := by omega
  clear h hA hnn
  go_enter Tryz.func41, Tryz.ntmps41
  go_wp2_with fail
  go_loopw [20] (fun c wr => ∃ (t : Nat) (d2 : Nat → Bool) (l2 : Nat), c = .int .i64 t ∧ t ≤ vs.length ∧ Pl wr A x0 w.heap.size l2 d2 ∧ Fm A w wr ∧ (∀ k, dn k = true → d2 k = true) ∧ ∀ j (hj : j < vs.length), j < t → vs[j].1 = 6 → ∀ i, i < A.n → d2 i = true) (fun c _ => vs.length - (intOf c).toNat)
  case atStart => exact ⟨0, dn, bd, rfl, by omega, HP.out.1, HP.out.2, fun _ h => h, fun j _ hj => by omega⟩
  case round =>
    obtain ⟨t, d2, l2, rfl, ht, hpl, hfm, hmo, hall⟩ := hrel
    have HQ : Hid (Pl wr A x0 w.heap.size l2 d2 ∧ Fm A w wr ∧ (∀ k, dn k = true → d2 k = true) ∧ ∀ j (hj : j < vs.length), j < t → vs[j].1 = 6 → ∀ i, i < A.n → d2 i = true) := ⟨hpl, hfm, hmo, hall⟩
    clear hpl hfm hmo hall HP
    by_cases h4 : t < vs.length
    · obtain ⟨ao', cap', e1, -, -, h3⟩ := HV.out.fm HQ.out.2.1
      injection e1 with e1 e2 e3
      subst e1 e3
      obtain ⟨b, off, c, f, rfl, e5, e6, q0, q1, q2⟩ := h3 t h4
      have c0 := (cell?_heapF e6 (off + t * 3)).trans q0
      have c1 := (cell?_heapF e6 (off + t * 3 + 1)).trans q1
      have c2 := (cell?_heapF e6 (off + t * 3 + 2)).trans q2
      have t0 : (0 : Int) ≤ (t : Int) := Int.natCast_nonneg _
      have t1 : (t : Int) < (vs.length : Int) := by omega
      have HK : Hid (vs[t].2.2 ≤ 9223372036854775807) := HN.out _ (List.getElem_mem h4)
      have HE : Hid (∀ p, p = vs[t] → ∀ j (hj : j < vs.length), j < t + 1 → vs[j].1 = 6 → j < t ∨ p.1 = 6) := fun p hp j hj h5 h6 => by
        by_cases e : j < t
        · exact .inl e
        · have : j = t := by omega
          subst this; rw [hp]; exact .inr h6
      clear h3 e2 q0 q1 q2 e6
      obtain ⟨k, hk⟩ : ∃ k, k = vs[t].1 := ⟨_, rfl⟩
      obtain ⟨x, hx⟩ : ∃ x, x = vs[t].2.1 := ⟨_, rfl⟩
      obtain ⟨nn, hn⟩ : ∃ nn, nn = vs[t].2.2 := ⟨_, rfl⟩
      rw [← hk] at c0
      rw [← hx] at c1
      rw [← hn] at c2
      have HKn : Hid (nn ≤ 9223372036854775807) := by show nn ≤ _; rw [hn]; exact HK.out
      have HE2 : Hid (∀ j (hj : j < vs.length), j < t + 1 → vs[j].1 = 6 → j < t ∨ k = 6) := by
        have := HE.out vs[t] rfl
        rw [← hk] at this
        exact this
      clear hk hx hn HK HE
      go_wp2_with fail
      have HQ2 : Hid (Pl (pkW wr k x nn) A x0 w.heap.size l2 d2 ∧ Fm A w (pkW wr k x nn)) := ⟨HQ.out.1.still HA.out ((Keeps.refl _ _).alloc _), HQ.out.2.1.trans (Fm.still ((Keeps.refl _ _).alloc _))⟩
      refine (pick_any (pkW wr k x nn) A x0 w.heap.size l2 d2 HA.out HQ2.out.1 h0 h1 k x nn HKn.out).mono ?_
      rintro e w5 ⟨rfl, d5, l5, p5, f5, m5, a5⟩
      have H5 : Hid (Pl w5 A x0 w.heap.size l5 d5 ∧ Fm A w w5 ∧ (∀ k, dn k = true → d5 k = true) ∧ ∀ j (hj : j < vs.length), j < t + 1 → vs[j].1 = 6 → ∀ i, i < A.n → d5 i = true) := ⟨p5, HQ2.out.2.trans f5, fun i hi => m5 i (HQ.out.2.2.1 i hi), fun j hj h5 h6 i hi => (HE2.out j hj h5 h6).elim (fun e => m5 i (HQ.out.2.2.2 j hj e h6 i hi)) (fun e => a5 e i hi)⟩
      clear p5 f5 m5 a5 HQ HQ2 HE2 HKn c0 c1 c2
      go_wp2
      go_roundw
      case rel => exact ⟨t + 1, d5, l5, by go_num, by omega, H5.out.1, H5.out.2.1, H5.out.2.2.1, H5.out.2.2.2⟩
      case measure => simp [intOf]; omega
    · have c1 := HQ.out.1.c1
      go_wp2
      go_ret2
      exact ⟨_, d2, rfl, HQ.out.1.bn, HQ.out.2.1, HQ.out.2.2.1, fun ⟨p, hp, h6⟩ i hi => by
        obtain ⟨j, hj, rfl⟩ := List.getElem_of_mem hp
        exact HQ.out.2.2.2 j hj (by omega) h6 i hi⟩
end Go.Proofs.YtegnmflbbpfdhaaGreat
