import Derived.Test.YtdpebhdjcgiboaaGreatKSoO
import Derived.Test.YtdpebhdjcgiboaaGreatKSoN
namespace Go.Proofs.YtdpebhdjcgiboaaGreat
set_option linter.unusedSimpArgs false
open Go.ChangeShapes Go.WideShapes Go.ChangeAt Go.RowKit Go.MuLone Go.RwLone
set_option linter.unusedVariables false
set_option maxRecDepth 100000
set_option maxHeartbeats 6400000
/-- One outcome is the lesser. -/
def ltU (a b : OuD) : Prop := cmO a.X a.Y b.X b.Y < 0
theorem ltU_trans {a b c : OuD} (h : ltU a b) (k : ltU b c) : ltU a c := by
  have ord := cmO_ord
  unfold ltU at *
  have t := ord.t (a.X, a.Y) (b.X, b.Y) (c.X, c.Y) (Int.le_of_lt h) (Int.le_of_lt k)
  rcases Int.lt_or_eq_of_le t with t | t
  · exact t
  · exfalso
    have e := ord.e (a.X, a.Y) (c.X, c.Y) t
    have f := ord.f (a.X, a.Y) (b.X, b.Y)
    injection e with e1 e2
    rw [← e1, ← e2] at k
    dsimp only at f
    omega
theorem ltU_flip {a b : OuD} (h : 0 < cmO a.X a.Y b.X b.Y) : ltU b a := by
  have f := cmO_ord.f (a.X, a.Y) (b.X, b.Y)
  unfold ltU
  dsimp only at f
  omega
/-- An outcome put into a rising list. -/
def InsP (xs : List OuD) (o : OuD) (ys : List OuD) : Prop :=
  (ys = xs ∧ ∃ x ∈ xs, x.X = o.X ∧ x.Y = o.Y) ∨ ∃ A D, xs = A ++ D ∧ ys = A ++ o :: D ∧ (∀ a ∈ A, ltU a o) ∧ ∀ d ∈ D, ltU o d
structure Ins (w w' : World) (M : Nat) (lv : Value) (xs : List OuD) (o : OuD) (v : Value) (ys : List OuD) : Prop where
  r : OwG ouC 51 2 w' M v ys
  p : InsP xs o ys
  o : ∀ y ∈ ys, OuW w' M y
  k : Keeps (fun y => lv.ownBlock = some y) w w'
  n : ∀ g, v.ownBlock = some g → lv.ownBlock = some g ∨ w.heap.size ≤ g
theorem sorted_at {xs : List OuD} (hs : xs.Pairwise ltU) {i j : Nat} {x y : OuD} (hx : xs[i]? = some x) (hy : xs[j]? = some y) (hij : i < j) : ltU x y := by
  obtain ⟨h1, rfl⟩ := List.getElem?_eq_some_iff.1 hx
  obtain ⟨h2, rfl⟩ := List.getElem?_eq_some_iff.1 hy
  exact (List.pairwise_iff_getElem.1 hs) i j h1 h2 hij
theorem ou_at {w : World} {M g n cap : Nat} {xs : List OuD} (h : OwG ouC 51 2 w M (.slice (some ⟨g, 0, none⟩) n cap) xs) {j : Nat} {x : OuD} (hx : xs[j]? = some x) : w.cell? ⟨g, j * 2, none⟩ = some (.slice x.a1 x.X.length x.c1) ∧ w.cell? ⟨g, j * 2 + 1, none⟩ = some (.slice x.a2 x.Y.length x.c2) ∧ ∀ k, w.frozen? ⟨g, k, none⟩ = false := by
  obtain ⟨hn, _, _, _, cur, hg⟩ := owG_cap h
  subst hn
  obtain ⟨hj, rfl⟩ := List.getElem?_eq_some_iff.1 hx
  have c0 := flat_get ouC 2 (fun _ => rfl) xs j hj 0 (by decide)
  have c1 := flat_get ouC 2 (fun _ => rfl) xs j hj 1 (by decide)
  rw [Nat.add_zero] at c0
  refine ⟨?_, ?_, fun k => frozen?_heap hg k⟩
  · rw [World.ownsRow.cellAt h (j * 2) (by omega), c0]; rfl
  · rw [World.ownsRow.cellAt h (j * 2 + 1) (by omega), c1]; rfl
theorem owG_upx {α : Type} {cs : α → List Value} {e : TypeId} {n : Nat} {w : World} {B C : Nat} {v : Value} {xs : List α} (h : OwG cs e n w B v xs) (hc : ∀ g, v.ownBlock = some g → C ≤ g) : OwG cs e n w C v xs := by
  refine ⟨h.1, ?_⟩
  rcases h.2 with h1 | ⟨g, cap, cur, rfl, h1, h2⟩
  · exact .inl h1
  · exact .inr ⟨g, cap, cur, rfl, hc g rfl, h2⟩
theorem insert_any (w : World) (M : Nat) (hM : M ≤ w.heap.size) (lv : Value) (xs : List OuD) (h : OwG ouC 51 2 w M lv xs) (hx : ∀ x ∈ xs, OuW w M x) (hs : xs.Pairwise ltU) (o : OuD) (ho : OuW w M o) (hl : xs.length ≤ 6103515625) :
    Calls Tryz.prog 100 #[lv, .agg #[.slice o.a1 o.X.length o.c1, .slice o.a2 o.Y.length o.c2]] w fun e w' => ∃ v ys, e = .returned v ∧ Ins w w' M lv xs o v ys := by
  obtain ⟨la, lc, rfl⟩ := h.form
  obtain ⟨n, hn⟩ : ∃ n, xs.length = n := ⟨_, rfl⟩
  rw [hn] at h hl ⊢
  obtain ⟨p1, hp1⟩ : ∃ p1, o.X.length = p1 := ⟨_, rfl⟩
  obtain ⟨p2, hp2⟩ : ∃ p2, o.Y.length = p2 := ⟨_, rfl⟩
  rw [hp1, hp2]
  have HN : Hid (xs.length = n ∧ o.X.length = p1 ∧ o.Y.length = p2) := ⟨hn, hp1, hp2⟩
  have k0 : Keeps (fun _ => False) w (w.alloc (.cells #[.slice o.a1 p1 o.c1, .slice o.a2 p2 o.c2] 51)) := (Keeps.refl _ _).alloc _
  have e0 : (w.alloc (.cells #[.slice o.a1 p1 o.c1, .slice o.a2 p2 o.c2] 51)).heap[w.heap.size]? = some (.cells #[.slice o.a1 p1 o.c1, .slice o.a2 p2 o.c2] 51) := heap_alloc_last _ _ _ rfl
  have H : Hid (OwG ouC 51 2 w M (.slice la n lc) xs ∧ (∀ x ∈ xs, OuW w M x) ∧ xs.Pairwise ltU ∧ OuW w M o) := ⟨h, hx, hs, ho⟩
  have H0 : Hid (Keeps (fun _ => False) w (w.alloc (.cells #[.slice o.a1 p1 o.c1, .slice o.a2 p2 o.c2] 51)) ∧ (w.alloc (.cells #[.slice o.a1 p1 o.c1, .slice o.a2 p2 o.c2] 51)).heap[w.heap.size]? = some (.cells #[.slice o.a1 p1 o.c1, .slice o.a2 p2 o.c2] 51)) := ⟨k0, e0⟩
  clear h hx hs ho hn hp1 hp2 k0 e0
  go_enter Tryz.func100, Tryz.ntmps100
  go_wp2_with fail
  generalize w.alloc (.cells #[.slice o.a1 p1 o.c1, .slice o.a2 p2 o.c2] 51) = w0 at *
  have HB : Hid (∀ W, Keeps (fun _ => False) w0 W → W.cell? ⟨w.heap.size, 0, none⟩ = some (.slice o.a1 p1 o.c1) ∧ W.cell? ⟨w.heap.size, 1, none⟩ = some (.slice o.a2 p2 o.c2)) := fun W k => by
    have e1 := (k.block _ (Array.getElem?_eq_some_iff.1 H0.out.2).1 (fun e => e)).trans H0.out.2
    exact ⟨(cell?_heap e1 0).trans rfl, (cell?_heap e1 1).trans rfl⟩
  go_loopw [5, 6] (fun c5 c6 wr => ∃ lo hi : Nat, c5 = .int .i64 (lo : Int) ∧ c6 = .int .i64 (hi : Int) ∧ lo ≤ hi ∧ hi ≤ n ∧ (∀ (j : Nat) (x : OuD), j < lo → xs[j]? = some x → ltU x o) ∧ (∀ (j : Nat) (x : OuD), hi ≤ j → xs[j]? = some x → ltU o x) ∧ Keeps (fun _ => False) w0 wr) (fun c5 c6 _ => (intOf c6).toNat - (intOf c5).toNat)
  case atStart => exact ⟨0, n, rfl, rfl, by omega, by omega, fun j x hj => by omega, fun j x hj hxj => by have := (List.getElem?_eq_some_iff.1 hxj).1; rw [HN.out.1] at this; omega, Keeps.refl _ _⟩
  case round =>
    rename World => wr
    obtain ⟨lo, hi, rfl, rfl, hlh, hhn, hlo, hhi, hk⟩ := hrel
    have HK : Hid ((∀ (j : Nat) (x : OuD), j < lo → xs[j]? = some x → ltU x o) ∧ (∀ (j : Nat) (x : OuD), hi ≤ j → xs[j]? = some x → ltU o x) ∧ Keeps (fun _ => False) w0 wr) := ⟨hlo, hhi, hk⟩
    have l0 : (0 : Int) ≤ (lo : Int) := Int.natCast_nonneg _
    have h0 : (0 : Int) ≤ (hi : Int) := Int.natCast_nonneg _
    clear hlo hhi hk
    by_cases h5 : lo < hi
    · have l1 : (lo : Int) < (hi : Int) := by omega
      obtain ⟨mid, hmid⟩ : ∃ mid : Nat, ((lo : Int) + (hi : Int)) / 2 = (mid : Int) := ⟨(lo + hi) / 2, by omega⟩
      have hm1 : lo ≤ mid ∧ mid < hi := by omega
      have m0 : (0 : Int) ≤ (mid : Int) := Int.natCast_nonneg _
      have m1 : (mid : Int) < (n : Int) := by omega
      have hml : mid < xs.length := by rw [HN.out.1]; omega
      obtain ⟨x, hxm⟩ : ∃ x, xs[mid]? = some x := ⟨_, List.getElem?_eq_getElem hml⟩
      obtain ⟨g, cg, hgg, -, -⟩ := owG_some H.out.1 (by intro e; rw [e] at hml; simp at hml)
      injection hgg with g1 g2 g3
      subst g1 g3
      have HX : Hid (xs[mid]? = some x) := hxm
      have ow := owK (owK H.out.1 H0.out.1 (fun _ _ e => e)) HK.out.2.2.drew (fun _ _ e => e)
      obtain ⟨d0, d1, -⟩ := ou_at ow hxm
      obtain ⟨s1, hs1⟩ : ∃ s1, x.X.length = s1 := ⟨_, rfl⟩
      obtain ⟨s2, hs2⟩ : ∃ s2, x.Y.length = s2 := ⟨_, rfl⟩
      rw [hs1] at d0
      rw [hs2] at d1
      have HS : Hid (x.X.length = s1 ∧ x.Y.length = s2) := ⟨hs1, hs2⟩
      obtain ⟨b0, b1⟩ := HB.out wr.drew HK.out.2.2.drew
      have kd : Keeps (fun _ => False) w wr.drew := H0.out.1.trans HK.out.2.2.drew
      have hxo := (H.out.2.1 x (List.mem_of_getElem? hxm)).keeps kd (fun _ _ _ _ e => e)
      have hoo := H.out.2.2.2.keeps kd (fun _ _ _ _ e => e)
      have hcp := rCompare_any wr.drew wr.drew.heap.size (Nat.le_refl _) x.a1 x.a2 o.a1 o.a2 x.c1 x.c2 o.c1 o.c2 x.X x.Y o.X o.Y hxo.o1.in hxo.o2.in hoo.o1.in hoo.o2.in (by have := hxo.l1; omega) (by have := hxo.l2; omega) (by have := hoo.l1; omega) (by have := hoo.l2; omega)
      have hsg := rcO_sign x.X x.Y o.X o.Y
      rw [hs1, hs2, HN.out.2.1, HN.out.2.2] at hcp
      obtain ⟨z, hz⟩ : ∃ z, rcO x.X x.Y o.X o.Y = z := ⟨_, rfl⟩
      rw [hz] at hcp hsg
      have HCP : Hid (∀ _ : Unit, _) := fun _ => hcp
      have HSG : Hid ((z < 0 ↔ cmO x.X x.Y o.X o.Y < 0) ∧ (z = 0 ↔ cmO x.X x.Y o.X o.Y = 0)) := hsg
      clear hxm ow kd hxo hoo hcp hsg hz hs1 hs2 g2 hml
      go_wp2_with fail
      rw [hmid]
      clear hmid
      (refine wp_region_held_drew (S := (fun X' => X'.cell? ⟨g, mid * 2, none⟩ = some (.slice x.a1 s1 x.c1) ∧ X'.cell? ⟨g, mid * 2 + 1, none⟩ = some (.slice x.a2 s2 x.c2) ∧ X'.cell? ⟨w.heap.size, 0, none⟩ = some (.slice o.a1 p1 o.c1) ∧ X'.cell? ⟨w.heap.size, 1, none⟩ = some (.slice o.a2 p2 o.c2))) (by kernel_rfl) ⟨d0, d1, b0, b1⟩ (fun hHeld => ?_); simp only [List.size_toArray, List.length_cons, List.length_nil, Nat.reduceAdd, Array.replicate_succ, Array.replicate_zero, List.push_toArray, List.append_toArray, List.nil_append, List.cons_append])
      clear d0 d1 b0 b1
      refine rgT 0 (h := ?_)
      refine rgT 1 (h := ?_)
      refine rgT 2 (h := ?_)
      refine rgT 3 (h := ?_)
      refine rgT 4 (h := ?_)
      (refine rgS 5 (h := fun K hK => ?_); go_simp)
      refine (HCP.out ()).mono ?_
      rintro e w2 ⟨rfl, k2⟩
      have HK2 : Hid (Keeps (fun _ => False) w0 w2) := HK.out.2.2.drew.trans k2
      have hS2 : w2.cell? ⟨g, mid * 2, none⟩ = some (.slice x.a1 s1 x.c1) ∧ w2.cell? ⟨g, mid * 2 + 1, none⟩ = some (.slice x.a2 s2 x.c2) ∧ w2.cell? ⟨w.heap.size, 0, none⟩ = some (.slice o.a1 p1 o.c1) ∧ w2.cell? ⟨w.heap.size, 1, none⟩ = some (.slice o.a2 p2 o.c2) := by
        have ow := owK (owK H.out.1 H0.out.1 (fun _ _ e => e)) HK2.out (fun _ _ e => e)
        obtain ⟨d0, d1, -⟩ := ou_at ow HX.out
        rw [HS.out.1] at d0
        rw [HS.out.2] at d1
        exact ⟨d0, d1, HB.out w2 HK2.out⟩
      (refine hK.out _ _ hS2 (fun hHeld => ?_); clear hK K; try simp only [Act.put, List.setIfInBounds_toArray, List.set_cons_zero, List.set_cons_succ])
      refine rgT 6 (h := ?_)
      refine wpAnyH_done (by kernel_rfl) ?_ _
      clear hHeld k2 hS2 HCP
      clear hHeld
      by_cases hz0 : z = 0
      · subst hz0
        have HF : Hid (Ins w w2 M (.slice (some ⟨g, 0, none⟩) n lc) xs o (.slice (some ⟨g, 0, none⟩) n lc) xs) := by
          have kk := H0.out.1.trans HK2.out
          have ce := cmO_ord.e (x.X, x.Y) (o.X, o.Y) (HSG.out.2.1 rfl)
          injection ce with ce1 ce2
          exact ⟨owK H.out.1 kk (fun _ _ e => e), .inl ⟨rfl, x, List.mem_of_getElem? HX.out, ce1, ce2⟩, fun y hy => (H.out.2.1 y hy).keeps kk (fun _ _ _ _ e => e), kk.mono (fun _ e => e.elim), fun g' hg' => .inl hg'⟩
        clear HSG
        go_wp2
        go_ret
        exact ⟨_, xs, rfl, HF.out⟩
      · by_cases hzn : z < 0
        · have HN1 : Hid (∀ (j : Nat) (y : OuD), j < mid + 1 → xs[j]? = some y → ltU y o) := fun j y hj hy => by
            have hxo : ltU x o := HSG.out.1.1 hzn
            by_cases e : j = mid
            · subst e
              rw [HX.out] at hy
              injection hy with hy
              subst hy
              exact hxo
            · exact ltU_trans (sorted_at H.out.2.2.1 hy HX.out (by omega)) hxo
          clear HSG
          go_wp2
          go_roundw
          case rel => exact ⟨mid + 1, hi, by go_num, rfl, by omega, by omega, HN1.out, HK.out.2.1, HK2.out⟩
          case measure => simp [intOf]; omega
        · have HN1 : Hid (∀ (j : Nat) (y : OuD), mid ≤ j → xs[j]? = some y → ltU o y) := fun j y hj hy => by
            have hxo : ltU o x := ltU_flip (by
              have h1 := HSG.out.1
              have h2 := HSG.out.2
              omega)
            by_cases e : j = mid
            · subst e
              rw [HX.out] at hy
              injection hy with hy
              subst hy
              exact hxo
            · exact ltU_trans hxo (sorted_at H.out.2.2.1 HX.out hy (by omega))
          clear HSG
          go_wp2
          go_roundw
          case rel => exact ⟨lo, mid, rfl, rfl, by omega, by omega, HK.out.1, HN1.out, HK2.out⟩
          case measure => simp [intOf]; omega
    · obtain rfl : lo = hi := by omega
      obtain ⟨b0, b1⟩ := HB.out wr HK.out.2.2
      have hown : OwG ouC 51 2 wr 0 (.slice la n lc) xs := (owK (owK H.out.1 H0.out.1 (fun _ _ e => e)) HK.out.2.2 (fun _ _ e => e)).down (Nat.zero_le _)
      have HOW : Hid (OwG ouC 51 2 wr 0 (.slice la n lc) xs) := hown
      clear hown
      have hb48 : (n + 1) * 48 ≤ 140737488355328 := by omega
      go_wp2_with (at_builtin; refine hideG ?_)
      change wpList _ _ _ _ _ _
      refine app_st (cs := ouC) (wr := wr) (by rfl) _ _ 63 51 (by rfl) Tryz.underlying63 infoOu rfl (by decide) (fun _ => rfl) _ xs o HOW.out (by rfl) wr.heap.size rfl (by rfl) (ouC_one _) _ (by show _ = (ouC o).toArray; unfold ouC; rw [HN.out.2.1, HN.out.2.2]) (by have := HN.out.1; unfold maxLen; omega) (by rw [HN.out.1]; exact hb48) ?_
      intro g5 c5 w5 ho5 hk5 hb5
      rw [HN.out.1] at ho5 ⊢
      have hz0 := (Array.getElem?_eq_some_iff.1 H0.out.2).1
      have hzr : w0.heap.size ≤ wr.heap.size := HK.out.2.2.size
      have hgM : M ≤ g5 ∧ g5 ≠ w.heap.size := by
        rcases hk5 with ⟨e1, _⟩ | ⟨e1, _⟩
        · have := World.ownsRow.lt H.out.1 g5 e1
          omega
        · omega
      have kw5 : Keeps (fun y => (Value.slice la n lc).ownBlock = some y) wr w5 := hk5.elim (·.2) (fun e => e.2.mono (fun _ e => e.elim))
      have HA : Hid (OwG ouC 51 2 w5 M (.slice (some ⟨g5, 0, none⟩) (n + 1) c5) (xs ++ [o]) ∧ Keeps (fun y => (Value.slice la n lc).ownBlock = some y) wr w5 ∧ M ≤ g5 ∧ g5 ≠ w.heap.size ∧ ((Value.slice la n lc).ownBlock = some g5 ∨ wr.heap.size ≤ g5)) := ⟨owG_upx ho5 (fun g hg => (show g5 = g by injection hg) ▸ hgM.1), kw5, hgM.1, hgM.2, hk5.imp (·.1) (·.1)⟩
      have HB5 : Hid (∀ X', Keeps (fun y => y = g5) w5 X' → X'.cell? ⟨w.heap.size, 0, none⟩ = some (.slice o.a1 p1 o.c1) ∧ X'.cell? ⟨w.heap.size, 1, none⟩ = some (.slice o.a2 p2 o.c2)) := fun X' k => by
        have e1 := (HK.out.2.2.block _ hz0 (fun e => e)).trans H0.out.2
        have e2 := (HA.out.2.1.block _ (Array.getElem?_eq_some_iff.1 e1).1 (fun e => by have := (World.ownsRow.lt H.out.1 _ e).2; omega)).trans e1
        have e3 := (k.block _ (Array.getElem?_eq_some_iff.1 e2).1 (fun e => HA.out.2.2.2.1 e.symm)).trans e2
        exact ⟨(cell?_heap e3 0).trans rfl, (cell?_heap e3 1).trans rfl⟩
      clear ho5 hk5 hb5 kw5 hgM b0 b1 hb48 hz0 hzr
      go_wp2_with fail
      go_loopw [9] (fun c wq => ∃ (i : Nat) (e : OuD), c = .int .i64 (i : Int) ∧ lo ≤ i ∧ i ≤ n ∧ OwG ouC 51 2 wq M (.slice (some ⟨g5, 0, none⟩) (n + 1) c5) (xs.take i ++ e :: xs.drop i) ∧ Keeps (fun y => y = g5) w5 wq) (fun c _ => (intOf c).toNat)
      case atStart => exact ⟨n, o, by go_num, by omega, Nat.le_refl _, by rw [List.take_of_length_le (by rw [HN.out.1]; exact Nat.le_refl _), List.drop_of_length_le (by rw [HN.out.1]; exact Nat.le_refl _)]; exact HA.out.1, Keeps.refl _ _⟩
      case round =>
        rename World => wq
        obtain ⟨i, e, rfl, hli, hin, hoq, hkq⟩ := hrel
        have HQ : Hid (OwG ouC 51 2 wq M (.slice (some ⟨g5, 0, none⟩) (n + 1) c5) (xs.take i ++ e :: xs.drop i) ∧ Keeps (fun y => y = g5) w5 wq) := ⟨hoq, hkq⟩
        have i0 : (0 : Int) ≤ (i : Int) := Int.natCast_nonneg _
        have hxl := HN.out.1
        by_cases h6 : lo < i
        · obtain ⟨k, rfl⟩ : ∃ k, i = k + 1 := ⟨i - 1, by omega⟩
          have hkx : k < xs.length := by omega
          obtain ⟨x, hxk⟩ : ∃ x, xs[k]? = some x := ⟨_, List.getElem?_eq_getElem hkx⟩
          have htl : (xs.take (k + 1)).length = k + 1 := by rw [List.length_take]; omega
          have r1 : (xs.take (k + 1) ++ e :: xs.drop (k + 1))[k]? = some x := by rw [List.getElem?_append_left (by omega), List.getElem?_take, if_pos (by omega)]; exact hxk
          have r2 : (xs.take (k + 1) ++ e :: xs.drop (k + 1))[k + 1]? = some e := by rw [List.getElem?_append_right (by omega), htl, Nat.sub_self]; rfl
          obtain ⟨d0, d1, fz⟩ := ou_at hoq r1
          obtain ⟨v0, v1, -⟩ := ou_at hoq r2
          have f0 := fz ((k + 1) * 2)
          have f1 := fz ((k + 1) * 2 + 1)
          have hset := owU_set hoq (k + 1) (by rw [List.length_append, htl]; simp) x
          have hls : (xs.take (k + 1) ++ e :: xs.drop (k + 1)).set (k + 1) x = xs.take k ++ x :: xs.drop k := by
            rw [List.set_append, if_neg (by omega), htl, Nat.sub_self]
            show xs.take (k + 1) ++ x :: xs.drop (k + 1) = _
            rw [List.take_add_one, hxk, List.append_assoc]
            obtain ⟨hk3, hk4⟩ := List.getElem?_eq_some_iff.1 hxk
            rw [List.drop_eq_getElem_cons hk3, hk4]
            rfl
          rw [hls] at hset
          have HS5 : Hid (OwG ouC 51 2 ((wq.setCell ⟨g5, (k + 1) * 2, none⟩ (.slice x.a1 x.X.length x.c1)).setCell ⟨g5, (k + 1) * 2 + 1, none⟩ (.slice x.a2 x.Y.length x.c2)) M (.slice (some ⟨g5, 0, none⟩) (n + 1) c5) (xs.take k ++ x :: xs.drop k) ∧ Keeps (fun y => y = g5) w5 ((wq.setCell ⟨g5, (k + 1) * 2, none⟩ (.slice x.a1 x.X.length x.c1)).setCell ⟨g5, (k + 1) * 2 + 1, none⟩ (.slice x.a2 x.Y.length x.c2))) := ⟨hset, Keeps.setCell (B := fun y => y = g5) (Keeps.setCell (B := fun y => y = g5) hkq rfl _) rfl _⟩
          obtain ⟨y1, hy1⟩ : ∃ y1, x.X.length = y1 := ⟨_, rfl⟩
          obtain ⟨y2, hy2⟩ : ∃ y2, x.Y.length = y2 := ⟨_, rfl⟩
          rw [hy1] at d0 HS5
          rw [hy2] at d1 HS5
          generalize e.X.length = z1 at *
          generalize e.Y.length = z2 at *
          have hk1 : ((k + 1 : Nat) : Int) - 1 = (k : Int) := by omega
          have k0 : (0 : Int) ≤ (k : Int) := Int.natCast_nonneg _
          have kn : (k : Int) < ((n + 1 : Nat) : Int) := by omega
          have kn2 : ((k + 1 : Nat) : Int) < ((n + 1 : Nat) : Int) := by omega
          have kl : ((k + 1 : Nat) : Int) > (lo : Int) := by omega
          clear hoq hkq hset hls r1 r2 fz hxk hkx htl hy1 hy2 HQ hxl
          go_wp2
          go_roundw
          case rel => exact ⟨k, x, rfl, by omega, by omega, HS5.out.1, HS5.out.2⟩
          case measure => simp [intOf]
        · obtain rfl : i = lo := by omega
          have htl : (xs.take i).length = i := by rw [List.length_take]; omega
          have r2 : (xs.take i ++ e :: xs.drop i)[i]? = some e := by rw [List.getElem?_append_right (by omega), htl, Nat.sub_self]; rfl
          obtain ⟨v0, v1, fz⟩ := ou_at hoq r2
          have f0 := fz (i * 2)
          have f1 := fz (i * 2 + 1)
          obtain ⟨b0, b1⟩ := HB5.out wq hkq
          have hset := owU_set hoq i (by rw [List.length_append, htl]; simp) o
          have hls : (xs.take i ++ e :: xs.drop i).set i o = xs.take i ++ o :: xs.drop i := by
            rw [List.set_append, if_neg (by omega), htl, Nat.sub_self]
            rfl
          rw [hls, HN.out.2.1, HN.out.2.2] at hset
          have HF : Hid (Ins w ((wq.setCell ⟨g5, i * 2, none⟩ (.slice o.a1 p1 o.c1)).setCell ⟨g5, i * 2 + 1, none⟩ (.slice o.a2 p2 o.c2)) M (.slice la n lc) xs o (.slice (some ⟨g5, 0, none⟩) (n + 1) c5) (xs.take i ++ o :: xs.drop i)) := by
            have kq : Keeps (fun y => y = g5) w5 ((wq.setCell ⟨g5, i * 2, none⟩ (.slice o.a1 p1 o.c1)).setCell ⟨g5, i * 2 + 1, none⟩ (.slice o.a2 p2 o.c2)) := Keeps.setCell (B := fun y => y = g5) (Keeps.setCell (B := fun y => y = g5) hkq rfl _) rfl _
            have kr : Keeps (fun _ => False) w wr := H0.out.1.trans HK.out.2.2
            refine ⟨hset, .inr ⟨xs.take i, xs.drop i, (List.take_append_drop i xs).symm, rfl, fun a ha => ?_, fun d hd => ?_⟩, fun y hy => ?_, ?_, fun g' hg' => ?_⟩
            · obtain ⟨j, hj⟩ := List.getElem?_of_mem ha
              have hjl := (List.getElem?_eq_some_iff.1 hj).1
              rw [List.getElem?_take, if_pos (by omega)] at hj
              exact HK.out.1 j a (by omega) hj
            · obtain ⟨j, hj⟩ := List.getElem?_of_mem hd
              rw [List.getElem?_drop] at hj
              exact HK.out.2.1 (i + j) d (by omega) hj
            · have hy0 : OuW w M y := by
                rcases List.mem_append.1 hy with e1 | e1
                · exact H.out.2.1 y (List.mem_of_mem_take e1)
                · rcases List.mem_cons.1 e1 with e1 | e1
                  · rw [e1]; exact H.out.2.2.2
                  · exact H.out.2.1 y (List.mem_of_mem_drop e1)
              have hy1 := hy0.keeps kr (fun _ _ _ _ e => e)
              have hy2 := hy1.keeps HA.out.2.1 (fun g' c' e' _ hg' => by
                obtain ⟨cu, eu⟩ := blk HOW.out hg'
                rw [e'] at eu
                injection eu with eu
                injection eu with _ eu _
                exact absurd eu (by decide))
              exact hy2.keeps kq (fun g' c' e' _ hg' => by
                obtain ⟨cu, eu⟩ := blk HA.out.1 (g := g5) rfl
                rw [← show g' = g5 from hg', e'] at eu
                injection eu with eu
                injection eu with _ eu _
                exact absurd eu (by decide))
            · have kk := (kr.mono (fun _ e => e.elim)).trans HA.out.2.1
              have z1 := kk.size
              refine ⟨kq.os.trans kk.os, kq.tape.trans kk.tape, kq.output.trans kk.output, Nat.le_trans z1 kq.size, fun x hx hnx => (kq.block x (by omega) (fun e => ?_)).trans (kk.block x hx hnx)⟩
              have e : x = g5 := e
              rcases HA.out.2.2.2.2 with e1 | e1
              · exact hnx (e ▸ e1)
              · have := kr.size
                omega
            · have e : g5 = g' := by injection hg'
              subst e
              have := kr.size
              exact HA.out.2.2.2.2.imp id (fun e => by omega)
          have i1 : (i : Int) < ((n + 1 : Nat) : Int) := by omega
          have i2 : ¬ (i : Int) > (i : Int) := by omega
          generalize e.X.length = z1 at *
          generalize e.Y.length = z2 at *
          clear hoq hkq hset hls r2 fz htl hxl
          go_wp2
          go_ret
          exact ⟨_, rfl, _, HF.out⟩
end Go.Proofs.YtdpebhdjcgiboaaGreat

namespace Go.Proofs.YtdpebhdjcgiboaaGreat
set_option linter.unusedSimpArgs false
open Go.ChangeShapes Go.WideShapes Go.ChangeAt Go.RowKit Go.MuLone Go.RwLone
set_option linter.unusedVariables false
set_option maxRecDepth 100000
set_option maxHeartbeats 6400000
/-- A thread of the document's program, wherever it stands. -/
structure Tq where
  ia : Option Addr
  m : Nat
  ic : Nat
  rb : Nat
  rk : Nat
  pl : Nat
def tqC (q : Tq) : List Value := [.slice q.ia q.m q.ic, .slice (some ⟨q.rb, 0, none⟩) 4 (4 + q.rk), .int .i64 (q.pl : Int)]
theorem tqC_one (q : Tq) : ∀ u ∈ tqC q, u.oneCell' = true := by
  intro u hu
  simp [tqC] at hu
  rcases hu with rfl | rfl | rfl <;> rfl
abbrev rgL4 (rg : Nat → Int) : List Int := [rg 0, rg 1, rg 2, rg 3]
/-- The lists of a program copied; B ≤ all its blocks. -/
structure Pcq (w : World) (B : Nat) (R : Rd) (s : Ls) (cv tvv : Value) (qs : List Tq) : Prop where
  oc : OwW w B cv (wlL s.wo R.wd)
  ot : OwG tqC 169 3 w B tvv qs
  qi : ∀ (j : Nat) (q : Tq), qs[j]? = some q → q.ia = R.ia j ∧ q.m = (R.ins j).length ∧ q.ic = R.icap j ∧ q.pl = s.pl j ∧ OwW w B (.slice (some ⟨q.rb, 0, none⟩) 4 (4 + q.rk)) (rgL4 (s.rg j)) ∧ ∀ g, cv.ownBlock = some g → g < q.rb
  inc : qs.Pairwise (fun a b => a.rb < b.rb)
theorem Pcq.keeps {w w' : World} {B : Nat} {R : Rd} {s : Ls} {cv tvv : Value} {qs : List Tq} {D : Nat → Prop} (h : Pcq w B R s cv tvv qs) (k : Keeps D w w') (hD : ∀ x, D x → x < B ∨ ∃ c t, w.heap[x]? = some (.cells c t) ∧ t ≠ 55 ∧ t ≠ 169) : Pcq w' B R s cv tvv qs := by
  have ap : ∀ {α : Type} {f : α → List Value} {e : TypeId} {n : Nat} {v : Value} {xs : List α}, OwG f e n w B v xs → (e = 55 ∨ e = 169) → OwG f e n w' B v xs := fun ho hne => owK ho k (fun g hg hd => by
    rcases hD g hd with e | ⟨c, t, e, n1, n2⟩
    · have := (World.ownsRow.lt ho g hg).1; omega
    · obtain ⟨cur, hcur⟩ := blk ho hg
      rw [e] at hcur
      injection hcur with hcur
      injection hcur with _ e2 _
      rcases hne with e3 | e3
      · exact n1 (e2.trans e3)
      · exact n2 (e2.trans e3))
  refine ⟨ap h.oc (.inl rfl), ap h.ot (.inr rfl), fun j q hq => ?_, h.inc⟩
  obtain ⟨h1, h2, h3, h4, h5, h6⟩ := h.qi j q hq
  exact ⟨h1, h2, h3, h4, ap h5 (.inl rfl), h6⟩
theorem tq_at {w : World} {B g n cap : Nat} {qs : List Tq} (h : OwG tqC 169 3 w B (.slice (some ⟨g, 0, none⟩) n cap) qs) {j : Nat} {q : Tq} (hq : qs[j]? = some q) : w.cell? ⟨g, j * 3, none⟩ = some (.slice q.ia q.m q.ic) ∧ w.cell? ⟨g, j * 3 + 1, none⟩ = some (.slice (some ⟨q.rb, 0, none⟩) 4 (4 + q.rk)) ∧ w.cell? ⟨g, j * 3 + 2, none⟩ = some (.int .i64 (q.pl : Int)) := by
  obtain ⟨hn, _, _, _, cur, hg⟩ := owG_cap h
  subst hn
  obtain ⟨hj, rfl⟩ := List.getElem?_eq_some_iff.1 hq
  have c0 := flat_get tqC 3 (fun _ => rfl) qs j hj 0 (by decide)
  have c1 := flat_get tqC 3 (fun _ => rfl) qs j hj 1 (by decide)
  have c2 := flat_get tqC 3 (fun _ => rfl) qs j hj 2 (by decide)
  rw [Nat.add_zero] at c0
  refine ⟨?_, ?_, ?_⟩
  · rw [World.ownsRow.cellAt h (j * 3) (by omega), c0]; rfl
  · rw [World.ownsRow.cellAt h (j * 3 + 1) (by omega), c1]; rfl
  · rw [World.ownsRow.cellAt h (j * 3 + 2) (by omega), c2]; rfl
theorem wd_at {w : World} {B g n cap : Nat} {xs : List Int} (h : OwW w B (.slice (some ⟨g, 0, none⟩) n cap) xs) {j : Nat} {x : Int} (hx : xs[j]? = some x) : w.cell? ⟨g, j, none⟩ = some (.int .u64 x) := by
  obtain ⟨hn, _⟩ := owG_cap h
  subst hn
  obtain ⟨hj, rfl⟩ := List.getElem?_eq_some_iff.1 hx
  have c0 := flat_get wdC 1 (fun _ => rfl) xs j hj 0 (by decide)
  rw [Nat.mul_one, Nat.add_zero] at c0
  rw [World.ownsRow.cellAt h j (by omega), c0]
  rfl
/-- A program copied, in its box: the document's program. -/
theorem Pcq.rp {w : World} {B : Nat} {R : Rd} {s : Ls} {cv tvv : Value} {qs : List Tq} (p : Pcq w B R s cv tvv qs) (hl : qs.length = R.n) (hR : RdOk R) (hn : 1 ≤ R.n) (hw : 1 ≤ R.wd) (hro : ∀ i, i < R.n → Ro w (R.ia i) (R.ins i)) (hil : ∀ i ib, i < R.n → R.ia i = some ⟨ib, 0, none⟩ → ib < B) (hBw : B ≤ w.heap.size) (b : Nat) (hb : w.heap[b]? = some (.cells #[cv, tvv] 85)) :
    ∃ R' : Rd, R'.bk = b ∧ R'.n = R.n ∧ R'.wd = R.wd ∧ R'.ins = R.ins ∧ R'.ia = R.ia ∧ R'.wd ≤ R'.cc ∧ RdOk R' ∧ RP R' w s ∧ ∀ y, fRw R' y → B ≤ y := by
  obtain ⟨cb, cc, rfl, hcB, hcl⟩ := owG_some p.oc (by intro e; have := congrArg List.length e; rw [wlL_len] at this; simp at this; omega)
  obtain ⟨tb, tc, rfl, htB, htl⟩ := owG_some p.ot (by intro e; rw [e] at hl; simp at hl; omega)
  obtain ⟨_, hccw, _, _, ccur, hct⟩ := owG_cap p.oc
  obtain ⟨_, _, _, _, tcur, htt⟩ := owG_cap p.ot
  have wl := wlL_len s.wo R.wd
  rw [wl] at hb hccw
  rw [hl] at hb
  have oc' : OwW w B (.slice (some ⟨cb, 0, none⟩) R.wd cc) (wlL s.wo R.wd) := by have := p.oc; rw [wl] at this; exact this
  have ot' : OwG tqC 169 3 w B (.slice (some ⟨tb, 0, none⟩) R.n tc) qs := by have := p.ot; rw [hl] at this; exact this
  let R' : Rd := { bk := b, tb := tb, cb := cb, rb := fun j => ((qs[j]?).map (·.rb)).getD 0, rk := fun j => ((qs[j]?).map (·.rk)).getD 0, ia := R.ia, icap := R.icap, wd := R.wd, n := R.n, cc := cc, tc := tc, ins := R.ins }
  have hq : ∀ j, j < R.n → ∃ q, qs[j]? = some q ∧ R'.rb j = q.rb ∧ R'.rk j = q.rk := fun j hj => ⟨qs[j]'(by omega), List.getElem?_eq_getElem (by omega), by simp [R', show j < qs.length by omega], by simp [R', show j < qs.length by omega]⟩
  have hrt : ∀ j, j < R.n → (∃ cur, w.heap[R'.rb j]? = some (.cells cur 55)) ∧ B ≤ R'.rb j ∧ cb < R'.rb j := fun j hj => by
    obtain ⟨q, h1, h2, h3⟩ := hq j hj
    obtain ⟨_, _, _, _, o, hg⟩ := p.qi j q h1
    rw [h2]
    exact ⟨blk o rfl, (World.ownsRow.lt o q.rb rfl).1, hg cb rfl⟩
  have ne : ∀ {x y : Nat} {c d : Array Value} {t u : TypeId}, w.heap[x]? = some (.cells c t) → w.heap[y]? = some (.cells d u) → t ≠ u → x ≠ y := fun hx hy hne e => by
    rw [e, hy] at hx
    injection hx with hx
    injection hx with _ e2 _
    exact hne e2.symm
  have fw : ∀ y, fRw R' y → B ≤ y ∧ ∃ c t, w.heap[y]? = some (.cells c t) ∧ t ≠ 85 := fun y hy => by
    rcases hy with rfl | rfl | ⟨j, hj, rfl⟩
    · exact ⟨htB, _, _, htt, by decide⟩
    · exact ⟨hcB, _, _, hct, by decide⟩
    · obtain ⟨⟨c, e⟩, e2, _⟩ := hrt j hj
      exact ⟨e2, _, _, e, by decide⟩
  refine ⟨R', rfl, rfl, rfl, rfl, rfl, hccw, ⟨?_, ne htt hct (by decide), fun j hj => ⟨?_, ?_⟩, fun i j hi hj hij => ?_, fun j ib hj e hf => ?_, hR.sd, hR.ln, hR.n4⟩, ⟨(cell?_heap hb 0).trans rfl, (cell?_heap hb 1).trans rfl, fun i hi => ?_, fun i hi => ?_, fun i hi => ?_, fun i j hi hj => ?_, fun c hc => ?_, hro, fun g j hg => ?_, fun y hy => ?_⟩, fun y hy => (fw y hy).1⟩
  · intro hf
    obtain ⟨_, c, t, e, e2⟩ := fw b hf
    exact ne e hb e2 rfl
  · obtain ⟨⟨c, e⟩, _⟩ := hrt j hj
    exact ne e htt (by decide)
  · obtain ⟨_, _, e⟩ := hrt j hj
    show R'.rb j ≠ cb
    omega
  · obtain ⟨q1, a1, a2, _⟩ := hq i hi
    obtain ⟨q2, b1, b2, _⟩ := hq j hj
    rw [a2, b2]
    obtain ⟨l1, rfl⟩ := List.getElem?_eq_some_iff.1 a1
    obtain ⟨l2, rfl⟩ := List.getElem?_eq_some_iff.1 b1
    rcases Nat.lt_or_gt_of_ne hij with h | h
    · have := (List.pairwise_iff_getElem.1 p.inc) i j l1 l2 h
      omega
    · have := (List.pairwise_iff_getElem.1 p.inc) j i l2 l1 h
      omega
  · have := (fw ib hf).1
    have := hil j ib hj e
    omega
  · obtain ⟨q, a1, a2, a3⟩ := hq i hi
    obtain ⟨e1, e2, e3, _⟩ := p.qi i q a1
    rw [(tq_at ot' a1).1, e1, e2, e3]
  · obtain ⟨q, a1, a2, a3⟩ := hq i hi
    rw [(tq_at ot' a1).2.1, a2, a3]
  · obtain ⟨q, a1, a2, a3⟩ := hq i hi
    obtain ⟨_, _, _, e4, _⟩ := p.qi i q a1
    rw [(tq_at ot' a1).2.2, e4]
  · obtain ⟨q, a1, a2, a3⟩ := hq i hi
    obtain ⟨_, _, _, _, o, _⟩ := p.qi i q a1
    rw [a2]
    refine wd_at o ?_
    match j, hj with
    | 0, _ => rfl
    | 1, _ => rfl
    | 2, _ => rfl
    | 3, _ => rfl
  · refine wd_at oc' ?_
    unfold wlL
    rw [List.getElem?_map, List.getElem?_range hc]
    rfl
  · obtain ⟨_, c, t, e, _⟩ := fw g hg
    exact frozen?_heap e j
  · rcases hy with hy | rfl | ⟨j, hj, e⟩
    · obtain ⟨_, c, t, e, _⟩ := fw y hy
      exact (Array.getElem?_eq_some_iff.1 e).1
    · exact (Array.getElem?_eq_some_iff.1 hb).1
    · have := hil j y hj e
      omega
/-- In the midst of copying a program. -/
structure Ccq (w wr : World) (R : Rd) (s : Ls) (qb : Nat) (cv tvv : Value) (qs : List Tq) (t : Nat) : Prop where
  p : Pcq wr w.heap.size R s cv tvv qs
  q : wr.heap[qb]? = some (.cells #[cv, tvv] 85)
  l : qs.length = t
  k : Below w.heap.size w wr
  r : wr.heap[w.heap.size]? = some (.cells #[.slice none 0 0, .slice none 0 0] 85)
  g : ∀ g, cv.ownBlock = some g → g < qb
theorem kp_belowx {w w' : World} (h : Below w.heap.size w w') : Keeps (fun _ => False) w w' := ⟨h.os, h.tape, h.output, h.size, fun x hx _ => h.block x hx⟩
theorem infoTq : (Tryz.prog.info? 169).map (fun i => (i.zero, i.size, i.bytes)) = some (some (.agg #[.slice none 0 0, .slice none 0 0, .int .i64 0]), 3, 56) := by kernel_rfl
theorem copied_any (w : World) (R : Rd) (hR : RdOk R) (s : Ls) (h : RP R w s) (hw : 1 ≤ R.wd ∧ R.wd ≤ 4) (hn : 1 ≤ R.n) (hcc : R.wd ≤ R.cc) (hln : ∀ i, i < R.n → (R.ins i).length ≤ 1000) :
    Calls Tryz.prog 99 #[.pointer (some ⟨R.bk, 0, none⟩)] w fun e w' => ∃ cv tvv qs, e = .returned (.agg #[cv, tvv]) ∧ Pcq w' w.heap.size R s cv tvv qs ∧ qs.length = R.n ∧ Below w.heap.size w w' := by
  have H : Hid (RP R w s) := h
  have h0 := h.p0
  have k0 : Keeps (fun _ => False) w (w.alloc (.cells #[.slice none 0 0, .slice none 0 0] 85)) := (Keeps.refl _ _).alloc _
  have HK0 : Hid (Keeps (fun _ => False) w (w.alloc (.cells #[.slice none 0 0, .slice none 0 0] 85)) ∧ (w.alloc (.cells #[.slice none 0 0, .slice none 0 0] 85)).heap[w.heap.size]? = some (.cells #[.slice none 0 0, .slice none 0 0] 85)) := ⟨k0, heap_alloc_last _ _ _ rfl⟩
  have q0 : (w.alloc (.cells #[.slice none 0 0, .slice none 0 0] 85)).cell? ⟨R.bk, 0, none⟩ = some (.slice (some ⟨R.cb, 0, none⟩) R.wd R.cc) := (h.still k0).p0
  have hwd := rwords_any (w.alloc (.cells #[.slice none 0 0, .slice none 0 0] 85)) (w.alloc (.cells #[.slice none 0 0, .slice none 0 0] 85)).heap.size (Nat.le_refl _) (some ⟨R.cb, 0, none⟩) R.cc (wlL s.wo R.wd) ((h.still k0).words hcc) (by rw [wlL_len]; omega)
  rw [wlL_len] at hwd
  have HWD : Hid (∀ _ : Unit, _) := fun _ => hwd
  clear h h0 k0 hwd
  go_enter Tryz.func99, Tryz.ntmps99
  go_wp2_with fail
  refine (HWD.out ()).mono ?_
  rintro e w1 ⟨ca, cc', rfl, oc, b1⟩
  generalize (w.alloc (.cells #[.slice none 0 0, .slice none 0 0] 85)) = w0 at *
  have hz0 : w.heap.size < w0.heap.size := (Array.getElem?_eq_some_iff.1 HK0.out.2).1
  have HC0 : Hid (Ccq w (w1.alloc (.cells #[(.slice ca R.wd cc'), .slice none 0 0] 85)) R s w1.heap.size (.slice ca R.wd cc') (.slice none 0 0) [] 0) := by
    have k1 : Keeps (fun _ => False) w1 (w1.alloc (.cells #[(.slice ca R.wd cc'), .slice none 0 0] 85)) := (Keeps.refl _ _).alloc _
    have hb : Below w.heap.size w w1 := (HK0.out.1.below (Nat.le_refl _) (fun _ _ e => e)).trans (b1.mono (by omega))
    have er := (b1.block _ hz0).trans HK0.out.2
    refine ⟨⟨(owK oc k1 (fun _ _ e => e)).down (by omega), OwG.nil _ _ _ _ _, fun j q hq => by simp at hq, List.Pairwise.nil⟩, heap_alloc_last _ _ _ rfl, rfl, hb.trans (k1.below hb.size (fun _ _ e => e)), (k1.block _ (Array.getElem?_eq_some_iff.1 er).1 (fun e => e)).trans er, fun g hg => (World.ownsRow.lt oc g hg).2⟩
  have HZ1 : Hid (w.heap.size < w1.heap.size) := by show _ < _; have := b1.size; omega
  clear oc b1 HWD q0
  go_wp2_with fail
  go_loopw [4] (fun c wr => ∃ (t : Nat) (tvv : Value) (qs : List Tq), c = .int .i64 (t : Int) ∧ t ≤ R.n ∧ Ccq w wr R s w1.heap.size (.slice ca R.wd cc') tvv qs t) (fun c _ => R.n - (intOf c).toNat)
  case atStart => exact ⟨0, _, [], rfl, Nat.zero_le _, HC0.out⟩
  case round =>
    rename World => wr
    obtain ⟨t, tvv, qs, rfl, ht, hC⟩ := hrel
    obtain ⟨ta, tc', rfl⟩ := hC.p.ot.form
    rw [hC.l] at hC
    have HC : Hid (Ccq w wr R s w1.heap.size (.slice ca R.wd cc') (.slice ta t tc') qs t) := hC
    have HL : Hid (qs.length = t) := hC.l
    have t0 : (0 : Int) ≤ (t : Int) := Int.natCast_nonneg _
    have rp : RP R wr s := H.out.still (kp_belowx hC.k)
    have HRP : Hid (RP R wr s) := rp
    have cb1 := rp.p1
    have cq1 := (cell?_heap hC.q 1).trans rfl
    clear hC
    by_cases h5 : t < R.n
    · have t1 : (t : Int) < (R.n : Int) := by omega
      have d0 := rp.t0 t h5
      have d1 := rp.t1 t h5
      have d2 := rp.t2 t h5
      clear rp
      have k2 : Keeps (fun _ => False) wr (wr.alloc (.cells #[.slice (R.ia t) (R.ins t).length (R.icap t), .slice (some ⟨R.rb t, 0, none⟩) 4 (4 + R.rk t), .int .i64 (s.pl t : Int)] 169)) := (Keeps.refl _ _).alloc _
      have e2 : (wr.alloc (.cells #[.slice (R.ia t) (R.ins t).length (R.icap t), .slice (some ⟨R.rb t, 0, none⟩) 4 (4 + R.rk t), .int .i64 (s.pl t : Int)] 169)).heap[wr.heap.size]? = some (.cells #[.slice (R.ia t) (R.ins t).length (R.icap t), .slice (some ⟨R.rb t, 0, none⟩) 4 (4 + R.rk t), .int .i64 (s.pl t : Int)] 169) := heap_alloc_last _ _ _ rfl
      have H2 : Hid (Keeps (fun _ => False) wr (wr.alloc (.cells #[.slice (R.ia t) (R.ins t).length (R.icap t), .slice (some ⟨R.rb t, 0, none⟩) 4 (4 + R.rk t), .int .i64 (s.pl t : Int)] 169)) ∧ (wr.alloc (.cells #[.slice (R.ia t) (R.ins t).length (R.icap t), .slice (some ⟨R.rb t, 0, none⟩) 4 (4 + R.rk t), .int .i64 (s.pl t : Int)] 169)).heap[wr.heap.size]? = some (.cells #[.slice (R.ia t) (R.ins t).length (R.icap t), .slice (some ⟨R.rb t, 0, none⟩) 4 (4 + R.rk t), .int .i64 (s.pl t : Int)] 169)) := ⟨k2, e2⟩
      clear k2 e2
      have hln5 := hln t h5
      have hn4 := hR.n4
      go_wp2_with fail
      generalize wr.alloc (.cells #[.slice (R.ia t) (R.ins t).length (R.icap t), .slice (some ⟨R.rb t, 0, none⟩) 4 (4 + R.rk t), .int .i64 (s.pl t : Int)] 169) = w2 at *
      have HS : Hid (∀ X', Keeps (fun _ => False) w2 X' → X'.cell? ⟨wr.heap.size, 0, none⟩ = some (.slice (R.ia t) (R.ins t).length (R.icap t)) ∧ X'.cell? ⟨wr.heap.size, 1, none⟩ = some (.slice (some ⟨R.rb t, 0, none⟩) 4 (4 + R.rk t)) ∧ X'.cell? ⟨wr.heap.size, 2, none⟩ = some (.int .i64 (s.pl t : Int))) := fun X' k => by
        have e1 := (k.block _ (Array.getElem?_eq_some_iff.1 H2.out.2).1 (fun e => e)).trans H2.out.2
        exact ⟨(cell?_heap e1 0).trans rfl, (cell?_heap e1 1).trans rfl, (cell?_heap e1 2).trans rfl⟩
      have HWD : Hid (Calls Tryz.prog 96 #[.slice (some ⟨R.rb t, 0, none⟩) 4 (4 + R.rk t)] w2.drew fun e w' => ∃ g' rk', e = .returned (.slice (some ⟨g', 0, none⟩) 4 (4 + rk')) ∧ OwW w' w2.heap.size (.slice (some ⟨g', 0, none⟩) 4 (4 + rk')) (rgL4 (s.rg t)) ∧ Below w2.heap.size w2 w') := by
        have rp2 : RP R w2.drew s := HRP.out.still H2.out.1.drew
        have := rwords_any w2.drew w2.drew.heap.size (Nat.le_refl _) (some ⟨R.rb t, 0, none⟩) (4 + R.rk t) (rgL4 (s.rg t)) (rp2.regs t h5) (by show 4 ≤ _; omega)
        refine Calls.mono this ?_
        rintro e w' ⟨a', c', rfl, o, b⟩
        obtain ⟨g', cap', e1, _, _⟩ := owG_some o (by simp)
        injection e1 with e2 e3 e4
        subst e2 e4
        have hc := (owG_cap o).2.1
        have hc4 : 4 ≤ c' := hc
        obtain ⟨rk', rfl⟩ : ∃ rk', c' = 4 + rk' := ⟨c' - 4, by omega⟩
        exact ⟨g', rk', rfl, o, (Below.refl _ _).drew.trans b⟩
      have HFN : Hid (∀ (w3 w5 : World) (g' rk' b5 cap5 : Nat), (Keeps (fun _ => False) w2 w3 ∧ OwW w3 w2.heap.size (.slice (some ⟨g', 0, none⟩) 4 (4 + rk')) (rgL4 (s.rg t)) ∧ OwG tqC 169 3 w3 0 (.slice ta t tc') qs ∧ True) → (OwG tqC 169 3 w5 0 (.slice (some ⟨b5, 0, none⟩) (t + 1) cap5) (qs ++ [⟨R.ia t, (R.ins t).length, R.icap t, g', rk', s.pl t⟩]) ∧ ((Value.slice ta t tc').ownBlock = some b5 ∧ Keeps (fun k => (Value.slice ta t tc').ownBlock = some k) w3 w5 ∨ w3.heap.size ≤ b5 ∧ Keeps (fun _ => False) w3 w5)) → w5.heap[w1.heap.size]? = some (.cells #[(.slice ca R.wd cc'), (.slice ta t tc')] 85) ∧ (∀ X', Keeps (fun y => y = w1.heap.size) w5 X' → X'.cell? ⟨wr.heap.size, 0, none⟩ = some (.slice (R.ia t) (R.ins t).length (R.icap t)) ∧ X'.cell? ⟨wr.heap.size, 1, none⟩ = some (.slice (some ⟨R.rb t, 0, none⟩) 4 (4 + R.rk t)) ∧ X'.cell? ⟨wr.heap.size, 2, none⟩ = some (.int .i64 (s.pl t : Int))) ∧ Ccq w (w5.setCell ⟨w1.heap.size, 1, none⟩ (.slice (some ⟨b5, 0, none⟩) (t + 1) cap5)) R s w1.heap.size (.slice ca R.wd cc') (.slice (some ⟨b5, 0, none⟩) (t + 1) cap5) (qs ++ [⟨R.ia t, (R.ins t).length, R.icap t, g', rk', s.pl t⟩]) (t + 1)) := fun w3 w5 g' rk' b5 cap5 h3 h5' => by
        obtain ⟨k23, o3, ot3, -⟩ := h3
        obtain ⟨ho5, hk5⟩ := h5'
        have hc := HC.out
        have kw : Keeps (fun k => (Value.slice ta t tc').ownBlock = some k) w3 w5 := hk5.elim (·.2) (fun e => e.2.mono (fun _ e => e.elim))
        have kr3 : Keeps (fun _ => False) wr w3 := H2.out.1.trans k23
        have p3 := hc.p.keeps kr3 (fun _ e => e.elim)
        have z1 := HZ1.out
        have z2 := hc.k.size
        have z3 := (Array.getElem?_eq_some_iff.1 H2.out.2).1
        have z4 := k23.size
        have zq := (Array.getElem?_eq_some_iff.1 hc.q).1
        have q3 := (kr3.block _ zq (fun e => e)).trans hc.q
        have tne : ∀ {x : Nat} {c : Array Value} {u : TypeId}, w3.heap[x]? = some (.cells c u) → u ≠ 169 → ¬ (Value.slice ta t tc').ownBlock = some x := fun hx hu hg => by
          obtain ⟨cur, e⟩ := blk ot3 hg
          rw [hx] at e
          injection e with e
          injection e with _ e _
          exact hu e
        have q5 : w5.heap[w1.heap.size]? = some (.cells #[(.slice ca R.wd cc'), (.slice ta t tc')] 85) := (kw.block _ (Array.getElem?_eq_some_iff.1 q3).1 (tne q3 (by decide))).trans q3
        have th3 := (k23.block _ z3 (fun e => e)).trans H2.out.2
        have th5 := (kw.block _ (Array.getElem?_eq_some_iff.1 th3).1 (fun e => by have := (World.ownsRow.lt hc.p.ot _ e).2; omega)).trans th3
        have r3 := (kr3.block _ (Array.getElem?_eq_some_iff.1 hc.r).1 (fun e => e)).trans hc.r
        have r5 := (kw.block _ (Array.getElem?_eq_some_iff.1 r3).1 (tne r3 (by decide))).trans r3
        have ks : Keeps (fun y => y = w1.heap.size) w5 (w5.setCell ⟨w1.heap.size, 1, none⟩ (.slice (some ⟨b5, 0, none⟩) (t + 1) cap5)) := Keeps.setCell (B := fun y => y = w1.heap.size) (Keeps.refl _ _) rfl _
        have kpU : ∀ {B' : Nat} {v : Value} {xs : List Int}, OwW w3 B' v xs → OwW (w5.setCell ⟨w1.heap.size, 1, none⟩ (.slice (some ⟨b5, 0, none⟩) (t + 1) cap5)) B' v xs := fun o => owK (owK o kw (fun g hg e => by
          obtain ⟨cur, e2⟩ := blk o hg
          exact tne e2 (by decide) e)) ks (fun g hg e => by
          have o5 := owK o kw (fun g hg e => by
            obtain ⟨cur, e2⟩ := blk o hg
            exact tne e2 (by decide) e)
          obtain ⟨cur, e2⟩ := blk o5 hg
          rw [show g = w1.heap.size from e, q5] at e2
          injection e2 with e2
          injection e2 with _ e2 _
          exact absurd e2 (by decide))
        have hb5 : w.heap.size ≤ b5 := by
          rcases hk5 with ⟨e, _⟩ | ⟨e, _⟩
          · exact (World.ownsRow.lt hc.p.ot b5 e).1
          · omega
        have g2 : w2.heap.size ≤ g' := (World.ownsRow.lt o3 g' rfl).1
        refine ⟨q5, fun X' k => ?_, ⟨⟨kpU p3.oc, ?_, fun j q hq => ?_, ?_⟩, heapSet q5 (j := 1) _, by rw [List.length_append, HL.out]; rfl, ?_, ?_, hc.g⟩⟩
        · have e1 := (k.block _ (Array.getElem?_eq_some_iff.1 th5).1 (fun e => by have e : wr.heap.size = w1.heap.size := e; omega)).trans th5
          exact ⟨(cell?_heap e1 0).trans rfl, (cell?_heap e1 1).trans rfl, (cell?_heap e1 2).trans rfl⟩
        · refine owK (owG_upx ho5 (fun g hg => (show b5 = g by injection hg) ▸ hb5)) ks (fun g hg e => ?_)
          obtain ⟨cur, e2⟩ := blk ho5 hg
          rw [show g = w1.heap.size from e, q5] at e2
          injection e2 with e2
          injection e2 with _ e2 _
          exact absurd e2 (by decide)
        · by_cases hj : j < qs.length
          · rw [List.getElem?_append_left hj] at hq
            obtain ⟨e1, e2, e3, e4, e5, e6⟩ := p3.qi j q hq
            exact ⟨e1, e2, e3, e4, kpU e5, e6⟩
          · have hj2 := (List.getElem?_eq_some_iff.1 hq).1
            rw [List.length_append, List.length_singleton] at hj2
            have hjt : j = qs.length := by omega
            subst hjt
            rw [List.getElem?_append_right (Nat.le_refl _), Nat.sub_self] at hq
            injection hq with hq
            subst hq
            rw [HL.out]
            exact ⟨rfl, rfl, rfl, rfl, (kpU o3).down (by omega), fun g hg => by have := hc.g g hg; show g < g'; omega⟩
        · rw [List.pairwise_append]
          refine ⟨p3.inc, List.pairwise_singleton _ _, fun x hx y hy => ?_⟩
          rw [List.mem_singleton.1 hy]
          obtain ⟨j, hj⟩ := List.getElem?_of_mem hx
          obtain ⟨_, _, _, _, e5, _⟩ := hc.p.qi j x hj
          have := (World.ownsRow.lt e5 x.rb rfl).2
          show x.rb < g'
          omega
        · have b1 := hc.k.trans (kr3.below z2 (fun _ _ e => e))
          have b2 := b1.trans (kw.below b1.size (fun y hy e => by have := (World.ownsRow.lt hc.p.ot y e).1; omega))
          exact b2.trans (ks.below b2.size (fun y hy e => by have e : y = w1.heap.size := e; omega))
        · exact (ks.block _ (Array.getElem?_eq_some_iff.1 r5).1 (fun e => by have e : w.heap.size = w1.heap.size := e; omega)).trans r5
      have HTVX : Hid (∀ X', Keeps (fun _ => False) w2 X' → X'.cell? ⟨w1.heap.size, 1, none⟩ = some (.slice ta t tc') ∧ OwG tqC 169 3 X' 0 (.slice ta t tc') qs) := fun X' k => by
        have kr : Keeps (fun _ => False) wr X' := H2.out.1.trans k
        have e1 := (kr.block _ (Array.getElem?_eq_some_iff.1 HC.out.q).1 (fun e => e)).trans HC.out.q
        exact ⟨(cell?_heap e1 1).trans rfl, (owK HC.out.p.ot kr (fun _ _ e => e)).down (Nat.zero_le _)⟩
      have sx := HS.out w2.drew (Keeps.refl _ _).drew
      have c1 := (HTVX.out w2.drew (Keeps.refl _ _).drew).1
      (refine wp_region_held_drew (S := (fun X' => X'.cell? ⟨wr.heap.size, 0, none⟩ = some (.slice (R.ia t) (R.ins t).length (R.icap t)) ∧ X'.cell? ⟨wr.heap.size, 1, none⟩ = some (.slice (some ⟨R.rb t, 0, none⟩) 4 (4 + R.rk t)) ∧ X'.cell? ⟨wr.heap.size, 2, none⟩ = some (.int .i64 (s.pl t : Int)))) (by kernel_rfl) sx (fun hHeld => ?_); simp only [List.size_toArray, List.length_cons, List.length_nil, Nat.reduceAdd, Array.replicate_succ, Array.replicate_zero, List.push_toArray, List.append_toArray, List.nil_append, List.cons_append])
      clear d0 d1 d2 cb1 cq1 sx
      refine rgT 0 (h := ?_)
      refine rgT 2 (h := ?_)
      refine rgT 3 (h := ?_)
      refine rgT 4 (h := ?_)
      refine rgT 5 (h := ?_)
      refine rgT 7 (h := ?_)
      refine rgT 8 (h := ?_)
      (refine wpAnyH_ready (rs := [1, 6]) (by kernel_rfl) (by simp) ?_; refine rgA 1 (by rfl) (fun K hK => ?_) (rgA 6 (by rfl) (fun K hK => ?_) AllReadyH.nil) <;> go_simp)
      · (refine hK.out _ _ hHeld (fun hHeld => ?_); clear hK K; try simp only [Act.put, List.setIfInBounds_toArray, List.set_cons_zero, List.set_cons_succ])
        (refine rgS 6 (h := fun K hK => ?_); go_simp)
        refine HWD.out.mono ?_
        rintro e w3 ⟨g', rk', rfl, o3, b3⟩
        have k3 : Keeps (fun _ => False) w2 w3 := kp_belowx b3
        have HW3 : Hid (Keeps (fun _ => False) w2 w3 ∧ OwW w3 w2.heap.size (.slice (some ⟨g', 0, none⟩) 4 (4 + rk')) (rgL4 (s.rg t)) ∧ OwG tqC 169 3 w3 0 (.slice ta t tc') qs ∧ True) := ⟨k3, o3, (HTVX.out w3 k3).2, trivial⟩
        clear o3 b3 k3
        (refine hK.out _ _ (HS.out _ HW3.out.1) (fun hHeld => ?_); clear hK K; try simp only [Act.put, List.setIfInBounds_toArray, List.set_cons_zero, List.set_cons_succ])
        refine rgT 9 (h := ?_)
        (refine rgS 10 (h := fun K hK => ?_); go_simp)
        (refine hK.out _ _ (HS.out _ (HW3.out.1.alloc _)) (fun hHeld => ?_); clear hK K; try simp only [Act.put, List.setIfInBounds_toArray, List.set_cons_zero, List.set_cons_succ])
        (refine rgS 11 (h := fun K hK => ?_); rw [if_pos (by rfl)])
        refine app_st_wp (cs := tqC) (wr := w3) _ _ 83 169 (by rfl) Tryz.underlying83 infoTq rfl (by decide) (fun _ => rfl) _ qs ⟨R.ia t, (R.ins t).length, R.icap t, g', rk', s.pl t⟩ HW3.out.2.2.1 (by rfl) w3.heap.size rfl (by rfl) (tqC_one _) _ rfl (by have := HL.out; unfold maxLen; omega) (by have := HL.out; omega) ?_
        intro b5 cap5 w5 ho5 hk5 hb5
        rw [HL.out] at ho5 ⊢
        have HA : Hid (OwG tqC 169 3 w5 0 (.slice (some ⟨b5, 0, none⟩) (t + 1) cap5) (qs ++ [⟨R.ia t, (R.ins t).length, R.icap t, g', rk', s.pl t⟩]) ∧ ((Value.slice ta t tc').ownBlock = some b5 ∧ Keeps (fun k => (Value.slice ta t tc').ownBlock = some k) w3 w5 ∨ w3.heap.size ≤ b5 ∧ Keeps (fun _ => False) w3 w5)) := ⟨ho5, hk5⟩
        obtain ⟨HQ5, HT5, HN5⟩ := HFN.out w3 w5 g' rk' b5 cap5 HW3.out HA.out
        have cq := (cell?_heap HQ5 1).trans rfl
        have fq := frozen?_heap HQ5 1
        have HNN : Hid (Ccq w (w5.setCell ⟨w1.heap.size, 1, none⟩ (.slice (some ⟨b5, 0, none⟩) (t + 1) cap5)) R s w1.heap.size (.slice ca R.wd cc') (.slice (some ⟨b5, 0, none⟩) (t + 1) cap5) (qs ++ [⟨R.ia t, (R.ins t).length, R.icap t, g', rk', s.pl t⟩]) (t + 1)) := HN5
        have HT6 : Hid (∀ X', Keeps (fun y => y = w1.heap.size) w5 X' → X'.cell? ⟨wr.heap.size, 0, none⟩ = some (.slice (R.ia t) (R.ins t).length (R.icap t)) ∧ X'.cell? ⟨wr.heap.size, 1, none⟩ = some (.slice (some ⟨R.rb t, 0, none⟩) 4 (4 + R.rk t)) ∧ X'.cell? ⟨wr.heap.size, 2, none⟩ = some (.int .i64 (s.pl t : Int))) := HT5
        clear ho5 hk5 hb5 HQ5 HT5 HN5
        (refine hK.out _ _ (HT6.out _ (Keeps.refl _ _)) (fun hHeld => ?_); clear hK K; try simp only [Act.put, List.setIfInBounds_toArray, List.set_cons_zero, List.set_cons_succ])
        refine rgT 12 (h := ?_)
        (refine rgS 13 (h := fun K hK => ?_); go_simp)
        (refine hK.out _ _ (HT6.out _ (Keeps.setCell (B := fun y => y = w1.heap.size) (Keeps.refl _ _) rfl _)) (fun hHeld => ?_); clear hK K; try simp only [Act.put, List.setIfInBounds_toArray, List.set_cons_zero, List.set_cons_succ])
        refine wpAnyH_done (by kernel_rfl) ?_ _
        clear hHeld cq fq
        go_wp2
        go_roundw
        case rel => exact ⟨t + 1, .slice (some ⟨b5, 0, none⟩) (t + 1) cap5, _, by go_num, h5, HNN.out⟩
        case measure => simp [intOf]; omega
      · refine HWD.out.mono ?_
        rintro e w3 ⟨g', rk', rfl, o3, b3⟩
        have k3 : Keeps (fun _ => False) w2 w3 := kp_belowx b3
        have HW3 : Hid (Keeps (fun _ => False) w2 w3 ∧ OwW w3 w2.heap.size (.slice (some ⟨g', 0, none⟩) 4 (4 + rk')) (rgL4 (s.rg t)) ∧ OwG tqC 169 3 w3 0 (.slice ta t tc') qs ∧ True) := ⟨k3, o3, (HTVX.out w3 k3).2, trivial⟩
        have c3 := (HTVX.out w3 k3).1
        clear o3 b3 k3
        (refine hK.out _ _ (HS.out _ HW3.out.1) (fun hHeld => ?_); clear hK K; try simp only [Act.put, List.setIfInBounds_toArray, List.set_cons_zero, List.set_cons_succ])
        refine rgT 9 (h := ?_)
        have c4 : (w3.alloc (.cells #[.slice (R.ia t) (R.ins t).length (R.icap t), .slice (some ⟨g', 0, none⟩) 4 (4 + rk'), .int .i64 (s.pl t : Int)] 169)).cell? ⟨w1.heap.size, 1, none⟩ = some (.slice ta t tc') := (HTVX.out _ (HW3.out.1.alloc _)).1
        (refine wpAnyH_ready (rs := [1, 10]) (by kernel_rfl) (by simp) ?_; refine rgA 1 (by rfl) (fun K hK => ?_) (rgA 10 (by rfl) (fun K hK => ?_) AllReadyH.nil) <;> go_simp)
        · (refine hK.out _ _ (HS.out _ HW3.out.1) (fun hHeld => ?_); clear hK K; try simp only [Act.put, List.setIfInBounds_toArray, List.set_cons_zero, List.set_cons_succ])
          (refine rgS 10 (h := fun K hK => ?_); go_simp)
          (refine hK.out _ _ (HS.out _ (HW3.out.1.alloc _)) (fun hHeld => ?_); clear hK K; try simp only [Act.put, List.setIfInBounds_toArray, List.set_cons_zero, List.set_cons_succ])
          (refine rgS 11 (h := fun K hK => ?_); rw [if_pos (by rfl)])
          refine app_st_wp (cs := tqC) (wr := w3) _ _ 83 169 (by rfl) Tryz.underlying83 infoTq rfl (by decide) (fun _ => rfl) _ qs ⟨R.ia t, (R.ins t).length, R.icap t, g', rk', s.pl t⟩ HW3.out.2.2.1 (by rfl) w3.heap.size rfl (by rfl) (tqC_one _) _ rfl (by have := HL.out; unfold maxLen; omega) (by have := HL.out; omega) ?_
          intro b5 cap5 w5 ho5 hk5 hb5
          rw [HL.out] at ho5 ⊢
          have HA : Hid (OwG tqC 169 3 w5 0 (.slice (some ⟨b5, 0, none⟩) (t + 1) cap5) (qs ++ [⟨R.ia t, (R.ins t).length, R.icap t, g', rk', s.pl t⟩]) ∧ ((Value.slice ta t tc').ownBlock = some b5 ∧ Keeps (fun k => (Value.slice ta t tc').ownBlock = some k) w3 w5 ∨ w3.heap.size ≤ b5 ∧ Keeps (fun _ => False) w3 w5)) := ⟨ho5, hk5⟩
          obtain ⟨HQ5, HT5, HN5⟩ := HFN.out w3 w5 g' rk' b5 cap5 HW3.out HA.out
          have cq := (cell?_heap HQ5 1).trans rfl
          have fq := frozen?_heap HQ5 1
          have HNN : Hid (Ccq w (w5.setCell ⟨w1.heap.size, 1, none⟩ (.slice (some ⟨b5, 0, none⟩) (t + 1) cap5)) R s w1.heap.size (.slice ca R.wd cc') (.slice (some ⟨b5, 0, none⟩) (t + 1) cap5) (qs ++ [⟨R.ia t, (R.ins t).length, R.icap t, g', rk', s.pl t⟩]) (t + 1)) := HN5
          have HT6 : Hid (∀ X', Keeps (fun y => y = w1.heap.size) w5 X' → X'.cell? ⟨wr.heap.size, 0, none⟩ = some (.slice (R.ia t) (R.ins t).length (R.icap t)) ∧ X'.cell? ⟨wr.heap.size, 1, none⟩ = some (.slice (some ⟨R.rb t, 0, none⟩) 4 (4 + R.rk t)) ∧ X'.cell? ⟨wr.heap.size, 2, none⟩ = some (.int .i64 (s.pl t : Int))) := HT5
          clear ho5 hk5 hb5 HQ5 HT5 HN5
          (refine hK.out _ _ (HT6.out _ (Keeps.refl _ _)) (fun hHeld => ?_); clear hK K; try simp only [Act.put, List.setIfInBounds_toArray, List.set_cons_zero, List.set_cons_succ])
          refine rgT 12 (h := ?_)
          (refine rgS 13 (h := fun K hK => ?_); go_simp)
          (refine hK.out _ _ (HT6.out _ (Keeps.setCell (B := fun y => y = w1.heap.size) (Keeps.refl _ _) rfl _)) (fun hHeld => ?_); clear hK K; try simp only [Act.put, List.setIfInBounds_toArray, List.set_cons_zero, List.set_cons_succ])
          refine wpAnyH_done (by kernel_rfl) ?_ _
          clear hHeld cq fq
          go_wp2
          go_roundw
          case rel => exact ⟨t + 1, .slice (some ⟨b5, 0, none⟩) (t + 1) cap5, _, by go_num, h5, HNN.out⟩
          case measure => simp [intOf]; omega
        · (refine hK.out _ _ (HS.out _ (HW3.out.1.alloc _)) (fun hHeld => ?_); clear hK K; try simp only [Act.put, List.setIfInBounds_toArray, List.set_cons_zero, List.set_cons_succ])
          (refine rgS 1 (h := fun K hK => ?_); go_simp)
          (refine hK.out _ _ (HS.out _ (HW3.out.1.alloc _)) (fun hHeld => ?_); clear hK K; try simp only [Act.put, List.setIfInBounds_toArray, List.set_cons_zero, List.set_cons_succ])
          (refine rgS 11 (h := fun K hK => ?_); rw [if_pos (by rfl)])
          refine app_st_wp (cs := tqC) (wr := w3) _ _ 83 169 (by rfl) Tryz.underlying83 infoTq rfl (by decide) (fun _ => rfl) _ qs ⟨R.ia t, (R.ins t).length, R.icap t, g', rk', s.pl t⟩ HW3.out.2.2.1 (by rfl) w3.heap.size rfl (by rfl) (tqC_one _) _ rfl (by have := HL.out; unfold maxLen; omega) (by have := HL.out; omega) ?_
          intro b5 cap5 w5 ho5 hk5 hb5
          rw [HL.out] at ho5 ⊢
          have HA : Hid (OwG tqC 169 3 w5 0 (.slice (some ⟨b5, 0, none⟩) (t + 1) cap5) (qs ++ [⟨R.ia t, (R.ins t).length, R.icap t, g', rk', s.pl t⟩]) ∧ ((Value.slice ta t tc').ownBlock = some b5 ∧ Keeps (fun k => (Value.slice ta t tc').ownBlock = some k) w3 w5 ∨ w3.heap.size ≤ b5 ∧ Keeps (fun _ => False) w3 w5)) := ⟨ho5, hk5⟩
          obtain ⟨HQ5, HT5, HN5⟩ := HFN.out w3 w5 g' rk' b5 cap5 HW3.out HA.out
          have cq := (cell?_heap HQ5 1).trans rfl
          have fq := frozen?_heap HQ5 1
          have HNN : Hid (Ccq w (w5.setCell ⟨w1.heap.size, 1, none⟩ (.slice (some ⟨b5, 0, none⟩) (t + 1) cap5)) R s w1.heap.size (.slice ca R.wd cc') (.slice (some ⟨b5, 0, none⟩) (t + 1) cap5) (qs ++ [⟨R.ia t, (R.ins t).length, R.icap t, g', rk', s.pl t⟩]) (t + 1)) := HN5
          have HT6 : Hid (∀ X', Keeps (fun y => y = w1.heap.size) w5 X' → X'.cell? ⟨wr.heap.size, 0, none⟩ = some (.slice (R.ia t) (R.ins t).length (R.icap t)) ∧ X'.cell? ⟨wr.heap.size, 1, none⟩ = some (.slice (some ⟨R.rb t, 0, none⟩) 4 (4 + R.rk t)) ∧ X'.cell? ⟨wr.heap.size, 2, none⟩ = some (.int .i64 (s.pl t : Int))) := HT5
          clear ho5 hk5 hb5 HQ5 HT5 HN5
          (refine hK.out _ _ (HT6.out _ (Keeps.refl _ _)) (fun hHeld => ?_); clear hK K; try simp only [Act.put, List.setIfInBounds_toArray, List.set_cons_zero, List.set_cons_succ])
          refine rgT 12 (h := ?_)
          (refine rgS 13 (h := fun K hK => ?_); go_simp)
          (refine hK.out _ _ (HT6.out _ (Keeps.setCell (B := fun y => y = w1.heap.size) (Keeps.refl _ _) rfl _)) (fun hHeld => ?_); clear hK K; try simp only [Act.put, List.setIfInBounds_toArray, List.set_cons_zero, List.set_cons_succ])
          refine wpAnyH_done (by kernel_rfl) ?_ _
          clear hHeld cq fq
          go_wp2
          go_roundw
          case rel => exact ⟨t + 1, .slice (some ⟨b5, 0, none⟩) (t + 1) cap5, _, by go_num, h5, HNN.out⟩
          case measure => simp [intOf]; omega
    · obtain rfl : t = R.n := by omega
      have cq0 := (cell?_heap HC.out.q 0).trans rfl
      have r0 := (cell?_heap HC.out.r 0).trans rfl
      have r1 := (cell?_heap HC.out.r 1).trans rfl
      have f0 := frozen?_heap HC.out.r 0
      have f1 := frozen?_heap HC.out.r 1
      clear rp
      go_wp2_with fail
      have kF : Keeps (fun y => y = w.heap.size) wr ((wr.setCell ⟨w.heap.size, 0, none⟩ (.slice ca R.wd cc')).setCell ⟨w.heap.size, 1, none⟩ (.slice ta R.n tc')) := Keeps.setCell (B := fun y => y = w.heap.size) (Keeps.setCell (B := fun y => y = w.heap.size) (Keeps.refl _ _) rfl _) rfl _
      have eF : ((wr.setCell ⟨w.heap.size, 0, none⟩ (.slice ca R.wd cc')).setCell ⟨w.heap.size, 1, none⟩ (.slice ta R.n tc')).heap[w.heap.size]? = some (.cells #[(.slice ca R.wd cc'), (.slice ta R.n tc')] 85) := heapSet (heapSet HC.out.r (j := 0) (.slice ca R.wd cc')) (j := 1) (.slice ta R.n tc')
      have hrg : ((wr.setCell ⟨w.heap.size, 0, none⟩ (.slice ca R.wd cc')).setCell ⟨w.heap.size, 1, none⟩ (.slice ta R.n tc')).rangeAt w.heap.size 0 [(.slice ca R.wd cc'), (.slice ta R.n tc')] := fun j u hj => by
        rw [Nat.zero_add, cell?_heap eF j, List.getElem?_toArray]
        exact hj
      refine bodyPost_ret (results_cellM (p := 2) (ty := 85) rfl _ _ w.heap.size [(.slice ca R.wd cc'), (.slice ta R.n tc')] _ (by rfl) hrg Tryz.underlying85 rfl (by kernel_rfl)) rfl ⟨_, _, qs, rfl, HC.out.p.keeps kF (fun x e => .inr ⟨_, _, (show x = w.heap.size from e) ▸ HC.out.r, by decide, by decide⟩), HL.out, HC.out.k.trans (kF.below HC.out.k.size (fun y hy e => by have e : y = w.heap.size := e; omega))⟩
end Go.Proofs.YtdpebhdjcgiboaaGreat

namespace Go.Proofs.YtdpebhdjcgiboaaGreat
open Go.ChangeShapes Go.WideShapes Go.ChangeAt Go.RowKit Go.MuLone Go.RwLone
set_option linter.unusedVariables false
set_option maxRecDepth 100000
set_option maxHeartbeats 6400000
theorem kp_below {w w' : World} (h : Below w.heap.size w w') : Keeps (fun _ => False) w w' := ⟨h.os, h.tape, h.output, h.size, fun x hx _ => h.block x hx⟩
theorem viC_24 (v : Vi (List Int)) : (viC v)[24]? = some (.int .i64 (v.2.1 : Nat)) ∧ (viC v)[25]? = some (.int .i64 (v.2.2 : Nat)) := by
  have hl : (rowU (fixS v.1)).length = 24 := by simp [rowU, fixS]
  unfold viC
  constructor
  · rw [List.getElem?_append_right (by omega), hl]; rfl
  · rw [List.getElem?_append_right (by omega), hl]; rfl
theorem path_any (w : World) (kb bb mb : Nat) (vv ev : Value) (V : List (Vi (List Int))) (E : List Nat) (h : Wlk w kb bb mb vv ev V E) (T : Ts (List Int)) (s0 : List Int) (i j : Nat) (vo : Vo T s0 V i j) (k : Nat) (hk : k < V.length) (hlen : (pathP V V.length k).length ≤ 14) (hl : V.length ≤ 6103515625) :
    Calls Tryz.prog 48 #[.pointer (some ⟨kb, 0, none⟩), .int .i64 (k : Int)] w fun e w' => ∃ v, e = .returned v ∧ SeesP w' w'.heap.size v (wpk (pathP V V.length k)) ∧ Below w.heap.size w w' := by
  obtain ⟨gv, cv, hvv, -⟩ := visit_at h.v hk
  subst hvv
  have H : Hid (Wlk w kb bb mb (.slice (some ⟨gv, 0, none⟩) V.length cv) ev V E ∧ Vo T s0 V i j ∧ (pathP V V.length k).length ≤ 14) := ⟨h, vo, hlen⟩
  have HC : Hid (∀ (X : World) (m : Nat) (v : Vi (List Int)), Below w.heap.size w X → V[m]? = some v → X.cell? ⟨kb, 1, none⟩ = some (.slice (some ⟨gv, 0, none⟩) V.length cv) ∧ X.cell? ⟨gv, m * 26 + 24, none⟩ = some (.int .i64 (v.2.1 : Nat)) ∧ X.cell? ⟨gv, m * 26 + 25, none⟩ = some (.int .i64 (v.2.2 : Nat))) := fun X m v hb hv => by
    have hX := h.keeps (kp_below hb) (fun _ e => e.elim)
    have hm := (List.getElem?_eq_some_iff.1 hv).1
    obtain ⟨gv', cv', hvv', hrg'⟩ := visit_at hX.v hm
    injection hvv' with e1
    injection e1 with e1
    injection e1 with e1
    subst e1
    have hVi : V[m] = v := by
      rw [List.getElem?_eq_getElem hm] at hv
      injection hv
    rw [hVi] at hrg'
    exact ⟨(cell?_heap hX.k 1).trans rfl, hrg' 24 _ (viC_24 v).1, hrg' 25 _ (viC_24 v).2⟩
  clear h vo hlen
  go_enter Tryz.func48, Tryz.ntmps48
  go_wp2_with fail
  go_loopw [1, 5] (fun c1 c5 wr => ∃ (m : Nat) (rs : List Nat), c1 = .int .i64 (m : Int) ∧ m < V.length ∧ OwG pkC 110 3 wr w.heap.size c5 (wpk rs) ∧ pathP V V.length k = pathP V V.length m ++ rs.reverse ∧ Below w.heap.size w wr) (fun c1 _ _ => (intOf c1).toNat)
  case atStart => exact ⟨k, [], rfl, hk, OwG.nil _ _ _ _ _, by simp, Below.refl _ _⟩
  case round =>
    rename World => wr
    obtain ⟨m, rs, rfl, hm, ho, hp, hb⟩ := hrel
    obtain ⟨pa, pc, rfl⟩ := ho.form
    have HQ : Hid (OwG pkC 110 3 wr w.heap.size (.slice pa (wpk rs).length pc) (wpk rs) ∧ pathP V V.length k = pathP V V.length m ++ rs.reverse ∧ Below w.heap.size w wr) := ⟨ho, hp, hb⟩
    have hrs : rs.length ≤ 14 := by
      have := congrArg List.length hp
      rw [List.length_append, List.length_reverse] at this
      have := H.out.2.2
      omega
    clear ho hp hb
    obtain ⟨pn, hwl⟩ : ∃ pn, (wpk rs).length = pn := ⟨_, rfl⟩
    have HW : Hid ((wpk rs).length = pn ∧ pn ≤ 14) := ⟨hwl, by rw [← hwl]; simpa using hrs⟩
    rw [hwl] at HQ ⊢
    clear hwl hrs
    have m0 : (0 : Int) ≤ (m : Int) := Int.natCast_nonneg _
    have m1 : (m : Int) < (V.length : Int) := by omega
    by_cases h5 : 0 < m
    · have m2 : (m : Int) > 0 := by omega
      have hv : V[m]? = some V[m] := List.getElem?_eq_getElem hm
      obtain ⟨c1, c24, c25⟩ := HC.out wr m _ HQ.out.2.2 hv
      obtain ⟨v, hvv⟩ : ∃ v, V[m] = v := ⟨_, rfl⟩
      rw [hvv] at hv c24 c25
      have HV : Hid (V[m]? = some v) := hv
      clear hv hvv
      obtain ⟨f, who⟩ : ∃ f, v.2.1 = f := ⟨_, rfl⟩
      obtain ⟨wh, hwh⟩ : ∃ wh, v.2.2 = wh := ⟨_, rfl⟩
      have HF : Hid (v.2.1 = f ∧ v.2.2 = wh) := ⟨who, hwh⟩
      rw [who] at c24
      rw [hwh] at c25
      clear who hwh
      go_wp2_with (at_builtin; refine hideG ?_)
      change wpList _ _ _ _ _ _
      refine app_one (cs := pkC) (wr := wr) (by rfl) _ _ 26 110 (by rfl) Tryz.underlying26 infoPk rfl (by decide) (fun _ => rfl) w.heap.size _ (wpk rs) (1, (wh : Int), 1) HQ.out.1 (by rfl) wr.heap.size rfl (by rfl) (pkC_one _) _ rfl (by have := HW.out; unfold maxLen; omega) (by have := HW.out; omega) HQ.out.2.2.size ?_
      intro v5 w5 ho5 hb5 hk5
      obtain ⟨d1, d24, d25⟩ := HC.out w5 m v (HQ.out.2.2.trans hb5) HV.out
      rw [HF.out.1] at d24
      have H5 : Hid (OwG pkC 110 3 w5 w.heap.size v5 (wpk (rs ++ [wh])) ∧ Below w.heap.size w w5) := ⟨by rw [show wpk (rs ++ [wh]) = wpk rs ++ [(1, (wh : Int), 1)] by simp]; exact ho5, HQ.out.2.2.trans hb5⟩
      clear ho5 hb5 hk5 c1 c24 c25 d25
      go_wp2
      have hst := path_step H.out.2.1 HV.out h5
      rw [HF.out.1, HF.out.2] at hst
      obtain ⟨p0, _, hfm, _⟩ := H.out.2.1.f m v HV.out h5
      rw [HF.out.1] at hfm
      go_roundw
      case rel => exact ⟨f, rs ++ [wh], rfl, by omega, H5.out.1, by rw [HQ.out.2.1, hst]; simp, H5.out.2⟩
      case measure => simp [intOf]; omega
    · obtain rfl : m = 0 := by omega
      go_wp2_with fail
      refine (reverse_any wr w.heap.size _ (wpk rs) HQ.out.1 (by have := HW.out; omega)).mono ?_
      rintro e w6 ⟨rfl, s6, k6⟩
      have H6 : Hid (SeesP w6 w6.heap.size (.slice pa pn pc) (wpk (pathP V V.length k)) ∧ Below w.heap.size w w6) := by
        refine ⟨?_, HQ.out.2.2.trans (k6.below HQ.out.2.2.size (fun y hy e => by have e : w.heap.size ≤ y := e; omega))⟩
        have e0 : pathP V V.length 0 = [] := by cases V.length <;> rfl
        rw [HQ.out.2.1, e0, List.nil_append]
        have : (wpk rs).reverse = wpk rs.reverse := by simp [List.map_reverse]
        rw [← this]
        exact s6
      clear s6 k6
      go_wp2
      go_ret
      exact ⟨_, rfl, H6.out⟩
end Go.Proofs.YtdpebhdjcgiboaaGreat

namespace Go.Proofs.YtdpebhdjcgiboaaGreat
set_option linter.unusedSimpArgs false
open Go.ChangeShapes Go.WideShapes Go.ChangeAt Go.RowKit Go.MuLone Go.RwLone
set_option linter.unusedVariables false
set_option maxRecDepth 100000
set_option maxHeartbeats 6400000
theorem inG_up {α : Type} {cs : α → List Value} {w : World} {B C : Nat} {v : Value} {xs : List α} (h : InG cs w B v xs) (hc : B ≤ C) : InG cs w C v xs := by
  obtain ⟨ao, cap, e, h1, h2, h3⟩ := h
  refine ⟨ao, cap, e, h1, h2, fun j u hj => ?_⟩
  obtain ⟨b, off, e1, e2, e3⟩ := h3 j u hj
  exact ⟨b, off, e1, by omega, e3⟩
/-- In the midst of looking for an outcome. -/
def WL (w0 wr : World) (cs : List Int) (tl : List (List I8)) (G : Nat → Prop) (B : Bd) (bb hb qb : Nat) (tv : Value) (kb mb : Nat) (vv ev : Value) (V : List (Vi (List Int))) (E : List Nat) (X Y : List Int) (t : Nat) : Prop :=
  (∃ a, Wb wr G B bb hb qb tv a kb mb vv ev V E) ∧ Below w0.heap.size w0 wr ∧ ∀ (j k : Nat) (v : Vi (List Int)), j < t → E[j]? = some k → V[k]? = some v → ¬ OutOf cs tl v.1 X Y
/-- What Witness answers. -/
def Wits (w w' : World) (cs : List Int) (tl : List (List I8)) (X Y : List Int) (s : ByteArray) (er : Int) : Prop :=
  Below w.heap.size w w' ∧ ((er = 0 ∧ s.size ≤ 64 ∧ ∃ u ws, EndS cs tl u ∧ OutOf cs tl u X Y ∧ wrd (tsL (insL tl) tl.length) ws (encS (begA cs tl).2) u ∧ dL s.data.toList = wpk ws) ∨ (er = 36 ∧ s = ⟨#[]⟩ ∧ ∀ u, EndS cs tl u → ¬ OutOf cs tl u X Y))
theorem witness_any (w : World) (C : Nat) (ca : Option Addr) (cc : Nat) (ta : Option Addr) (tc : Nat) (tvf : Nat → Value) (cs : List Int) (tl : List (List I8)) (h : LitG w C ca cc ta tc tvf cs tl) (hC : C ≤ w.heap.size) (hsd : soundP cs tl = true) (hco : csOk cs) (hio : ∀ l ∈ tl, ∀ x ∈ l, immOk x) (a1 : Option Addr) (d1 : Nat) (a2 : Option Addr) (d2 : Nat) (X Y : List Int) (h1 : InG wdC w C (.slice a1 X.length d1) X) (h2 : InG wdC w C (.slice a2 Y.length d2) Y) :
    Calls Tryz.prog 21 #[.agg (litC ca cs.length cc ta tl.length tc), .agg #[.slice a1 X.length d1, .slice a2 Y.length d2]] w fun e w' => ∃ s er, e = .returned (.tuple #[.string s, .int .i64 er]) ∧ Wits w w' cs tl X Y s er := by
  obtain ⟨hc4, hn4, -⟩ := sound_facts hsd
  obtain ⟨xn, hxn⟩ : ∃ xn, X.length = xn := ⟨_, rfl⟩
  obtain ⟨yn, hyn⟩ : ∃ yn, Y.length = yn := ⟨_, rfl⟩
  have HXY : Hid (X.length = xn ∧ Y.length = yn) := ⟨hxn, hyn⟩
  rw [hxn, hyn]
  have k0 : Keeps (fun _ => False) w ((w.alloc (.cells (litC ca cs.length cc ta tl.length tc) 49)).alloc (.cells #[.slice a1 xn d1, .slice a2 yn d2] 51)) := ((Keeps.refl _ _).alloc _).alloc _
  have hz0 : ((w.alloc (.cells (litC ca cs.length cc ta tl.length tc) 49)).alloc (.cells #[.slice a1 xn d1, .slice a2 yn d2] 51)).heap.size = w.heap.size + 2 := by rw [szAl, szAl]
  have e0 : ((w.alloc (.cells (litC ca cs.length cc ta tl.length tc) 49)).alloc (.cells #[.slice a1 xn d1, .slice a2 yn d2] 51)).heap[w.heap.size + 1]? = some (.cells #[.slice a1 xn d1, .slice a2 yn d2] 51) := heap_alloc_last _ _ _ (szAl _ _).symm
  have HL := explore_any ((w.alloc (.cells (litC ca cs.length cc ta tl.length tc) 49)).alloc (.cells #[.slice a1 xn d1, .slice a2 yn d2] 51)) C ca cc ta tc tvf cs tl (h.later (k0.below hC (fun _ _ e => e))) (by omega) hsd hco hio
  have HLL : Hid (∀ _ : Unit, _) := fun _ => HL
  have HK0 : Hid (Below w.heap.size w ((w.alloc (.cells (litC ca cs.length cc ta tl.length tc) 49)).alloc (.cells #[.slice a1 xn d1, .slice a2 yn d2] 51)) ∧ soundP cs tl = true ∧ ((w.alloc (.cells (litC ca cs.length cc ta tl.length tc) 49)).alloc (.cells #[.slice a1 xn d1, .slice a2 yn d2] 51)).heap.size = w.heap.size + 2 ∧ ((w.alloc (.cells (litC ca cs.length cc ta tl.length tc) 49)).alloc (.cells #[.slice a1 xn d1, .slice a2 yn d2] 51)).heap[w.heap.size + 1]? = some (.cells #[.slice a1 xn d1, .slice a2 yn d2] 51)) := ⟨k0.below (Nat.le_refl _) (fun _ _ e => e), hsd, hz0, e0⟩
  have HIN : Hid (InG wdC w C (.slice a1 X.length d1) X ∧ InG wdC w C (.slice a2 Y.length d2) Y) := ⟨h1, h2⟩
  clear h HL k0 hsd hco hio hz0 e0 h1 h2 hxn hyn
  go_enter Tryz.func21, Tryz.ntmps21
  go_wp2_with fail
  refine (HLL.out ()).mono ?_
  rintro e w1 ⟨kb, rfl, hE⟩
  clear HLL
  generalize (w.alloc (.cells (litC ca cs.length cc ta tl.length tc) 49)).alloc (.cells #[.slice a1 xn d1, .slice a2 yn d2] 51) = w0 at *
  obtain ⟨G, B, bb, hb, qb, tv, a, mb, vv, ev, V, hB, hx⟩ := hE
  have HX : Hid (BdIs B cs tl ∧ Ex w0 w1 cs tl G B bb hb qb tv a kb mb vv ev V V.length) := ⟨hB, hx⟩
  have hBn : 1 ≤ B.n ∧ B.n ≤ 4 := by rw [hB.n]; exact hn4
  have hBw : 1 ≤ B.wd ∧ B.wd ≤ 4 := by rw [hB.w]; exact hc4
  have hfew : V.length ≤ 6103515625 := by
    have := hx.o
    rw [hB.i, hB.n] at this
    exact few_all HK0.out.2.1 this
  obtain ⟨E, hEE⟩ : ∃ E, endsP (tsL B.ins B.n) V V.length = E := ⟨_, rfl⟩
  have hEn : E ≠ [] := by
    obtain ⟨k, v, hk, _⟩ := ends_all hB hx.o (end_some HK0.out.2.1 [])
    rw [hEE] at hk
    exact List.ne_nil_of_mem hk
  have hEl : E.length ≤ V.length := by rw [← hEE]; exact ends_len _ _ _
  have hwb := hx.h
  rw [hEE] at hwb
  obtain ⟨ge, ce, hev, -, -⟩ := owG_some hwb.k.e hEn
  subst hev
  have HE : Hid (endsP (tsL B.ins B.n) V V.length = E ∧ E ≠ []) := ⟨hEE, hEn⟩
  have HO0 : Hid (WL w0 w1 cs tl G B bb hb qb tv kb mb vv (.slice (some ⟨ge, 0, none⟩) E.length ce) V E X Y 0) := ⟨⟨a, hwb⟩, hx.k, fun j k v hj => by omega⟩
  have HS : Hid (∀ X' : World, Below w0.heap.size w0 X' → X'.cell? ⟨w.heap.size + 1, 0, none⟩ = some (.slice a1 xn d1) ∧ X'.cell? ⟨w.heap.size + 1, 1, none⟩ = some (.slice a2 yn d2)) := fun X' hb' => by
    have e1 := (hb'.block (w.heap.size + 1) (by have := HK0.out.2.2.1; omega)).trans HK0.out.2.2.2
    exact ⟨(cell?_heap e1 0).trans rfl, (cell?_heap e1 1).trans rfl⟩
  have c3 := (cell?_heap hwb.k.k 3).trans rfl
  clear hB hx hEE hEn hwb
  go_wp2_with fail
  clear c3
  go_loopw [23] (fun c wr => ∃ t : Nat, c = .int .i64 (t : Int) ∧ t ≤ E.length ∧ WL w0 wr cs tl G B bb hb qb tv kb mb vv (.slice (some ⟨ge, 0, none⟩) E.length ce) V E X Y t) (fun c _ => E.length - (intOf c).toNat)
  case atStart => exact ⟨0, rfl, Nat.zero_le _, HO0.out⟩
  case round =>
    rename World => wr
    obtain ⟨t, rfl, ht, hO⟩ := hrel
    have HO : Hid (WL w0 wr cs tl G B bb hb qb tv kb mb vv (.slice (some ⟨ge, 0, none⟩) E.length ce) V E X Y t) := hO
    have t0 : (0 : Int) ≤ (t : Int) := Int.natCast_nonneg _
    by_cases h5 : t < E.length
    · have t1 : (t : Int) < (E.length : Int) := by omega
      obtain ⟨ar, hW⟩ := hO.1
      have cE : wr.cell? ⟨ge, t, none⟩ = some (.int .i64 ((E[t] : Nat) : Int)) := by
        rw [World.ownsRow.cellAt hW.k.e t (by omega)]
        have := flat_get enC 1 (fun _ => rfl) E t h5 0 (by decide)
        rw [Nat.mul_one, Nat.add_zero] at this
        rw [this]
        rfl
      have HW : Hid (Wb wr G B bb hb qb tv ar kb mb vv (.slice (some ⟨ge, 0, none⟩) E.length ce) V E) := hW
      obtain ⟨k, hkE⟩ : ∃ k, E[t] = k := ⟨_, rfl⟩
      rw [hkE] at cE
      have HKE : Hid (E[t]? = some k) := by show _ = _; rw [List.getElem?_eq_getElem h5, hkE]
      have sx := HS.out wr.drew (hO.2.1.drew)
      clear hO hW hkE
      have hkm : k ∈ endsP (tsL B.ins B.n) V V.length := by rw [HE.out.1]; exact List.mem_of_getElem? HKE.out
      obtain ⟨v, hv, hvE, hvw⟩ := ends_is HX.out.1 HX.out.2.o hkm
      have HV : Hid (V[k]? = some v ∧ EndS cs tl v.1 ∧ wrd (tsL (insL tl) tl.length) (pathP V V.length k) (encS (begA cs tl).2) v.1) := ⟨hv, hvE, hvw⟩
      clear hkm hv hvE hvw
      go_wp2_with fail
      (refine wp_region_held_drew (S := (fun X' => X'.cell? ⟨w.heap.size + 1, 0, none⟩ = some (.slice a1 xn d1) ∧ X'.cell? ⟨w.heap.size + 1, 1, none⟩ = some (.slice a2 yn d2))) (by kernel_rfl) sx (fun hHeld => ?_); simp only [List.size_toArray, List.length_cons, List.length_nil, Nat.reduceAdd, Array.replicate_succ, Array.replicate_zero, List.push_toArray, List.append_toArray, List.nil_append, List.cons_append])
      clear sx cE
      refine rgT 0 (h := ?_)
      refine rgT 1 (h := ?_)
      refine rgT 3 (h := ?_)
      (refine rgS 2 (h := fun K hK => ?_); go_simp)
      refine (outcome_any wr.drew G B HX.out.1.ok bb hb qb tv ar kb mb vv _ V E (HW.out.still (Keeps.refl _ _).drew) hBn hBw k v HV.out.1 (HX.out.2.g v (List.mem_of_getElem? HV.out.1)) hfew).mono ?_
      rintro e w2 ⟨g, rv, rfl, o1, o2, ⟨a2', hW2⟩, k2, -⟩
      obtain ⟨ra, rc, hrv⟩ := o2.form
      subst hrv
      have hb2 : Below w0.heap.size w0 w2 := (HO.out.2.1.drew).trans (k2.below HO.out.2.1.drew.size (fun y hy e => by have := HX.out.2.b y e; omega))
      have hz0 := HK0.out.2.2.1
      have hbw : Below w.heap.size w w2 := HK0.out.1.trans (hb2.mono (by omega))
      have hM2 := hb2.size
      have i1 := inG_up (HIN.out.1.later (hbw.mono hC)) (show C ≤ w2.heap.size by omega)
      have i2 := inG_up (HIN.out.2.later (hbw.mono hC)) (show C ≤ w2.heap.size by omega)
      have hcp := compare_any w2 w2.heap.size (Nat.le_refl _) (some ⟨g, 0, none⟩) ra a1 a2 B.wd rc d1 d2 (wlL (decS v.1).wo B.wd) (regsL (decS v.1).rg B.n) X Y (by rw [wlL_len]; exact o1.in) o2.in i1 i2 (by rw [wlL_len]; omega) (by rw [regsL_len]; omega)
      rw [wlL_len, HXY.out.1, HXY.out.2] at hcp
      obtain ⟨rn, hrn⟩ : ∃ rn, (regsL (decS v.1).rg B.n).length = rn := ⟨_, rfl⟩
      obtain ⟨cz, hcz⟩ : ∃ cz, cmO (wlL (decS v.1).wo B.wd) (regsL (decS v.1).rg B.n) X Y = cz := ⟨_, rfl⟩
      rw [hrn, hcz] at hcp
      rw [hrn]
      have HCP : Hid (∀ _ : Unit, _) := fun _ => hcp
      have HCZ : Hid (cz = 0 ↔ OutOf cs tl v.1 X Y) := by
        show _ ↔ _
        rw [← hcz]
        unfold OutOf
        rw [← HX.out.1.w, ← HX.out.1.n]
        constructor
        · intro e
          have := cmO_ord.e (wlL (decS v.1).wo B.wd, regsL (decS v.1).rg B.n) (X, Y) e
          injection this with e1 e2
          exact ⟨e1.symm, e2.symm⟩
        · rintro ⟨e1, e2⟩
          rw [e1, e2]
          exact cmO_ord.r (wlL (decS v.1).wo B.wd, regsL (decS v.1).rg B.n)
      have H2 : Hid (Wb w2 G B bb hb qb tv a2' kb mb vv (.slice (some ⟨ge, 0, none⟩) E.length ce) V E ∧ Below w0.heap.size w0 w2) := ⟨hW2, hb2⟩
      clear o1 o2 hW2 k2 hb2 hz0 hbw hM2 i1 i2 hcp hrn hcz
      (refine hK.out _ _ (HS.out w2 H2.out.2) (fun hHeld => ?_); clear hK K; try simp only [Act.put, List.setIfInBounds_toArray, List.set_cons_zero, List.set_cons_succ])
      (refine rgS 4 (h := fun K hK => ?_); go_simp)
      refine (HCP.out ()).mono ?_
      rintro e w3 ⟨rfl, k3, -⟩
      have H3 : Hid (Wb w3 G B bb hb qb tv a2' kb mb vv (.slice (some ⟨ge, 0, none⟩) E.length ce) V E ∧ Below w0.heap.size w0 w3) := ⟨H2.out.1.still k3, H2.out.2.trans (k3.below H2.out.2.size (fun _ _ e => e))⟩
      clear k3 HCP
      (refine hK.out _ _ (HS.out w3 H3.out.2) (fun hHeld => ?_); clear hK K; try simp only [Act.put, List.setIfInBounds_toArray, List.set_cons_zero, List.set_cons_succ])
      by_cases hz : cz = 0
      · have HOO : Hid (OutOf cs tl v.1 X Y) := HCZ.out.1 hz
        clear HCZ
        subst hz
        refine rgT 5 (h := ?_)
        refine wpAnyH_done (by kernel_rfl) ?_ _
        clear hHeld
        clear hHeld
        have hlen : (pathP V V.length k).length ≤ 14 := word_ten HK0.out.2.1 HV.out.2.2
        have hkl := (List.getElem?_eq_some_iff.1 HV.out.1).1
        go_wp2_with fail
        refine (path_any w3 kb bb mb vv _ V E H3.out.1.k _ _ _ _ HX.out.2.o k hkl hlen hfew).mono ?_
        rintro e w4 ⟨pv, rfl, s4, b4⟩
        have hm4 : ∀ m ∈ pathP V V.length k, m < 4 := fun m hm => by
          have := wrd_mem _ HV.out.2.2 m hm
          have : m < tl.length := this
          omega
        have hen := encode_any pv (wpk (pathP V V.length k)) w4.heap.size w4 (Nat.le_refl _) s4 (fun p hp => by
          obtain ⟨m, hm, rfl⟩ := List.mem_map.1 hp
          have := hm4 m hm
          unfold wfP
          dsimp only
          omega) (by rw [List.length_map]; omega)
        rw [encA_word _ hm4] at hen
        have hdl := dL_word _ hm4
        have hss : (strOfNums (encB (wpk (pathP V V.length k)))).size ≤ 64 := by
          rw [str_size]
          have := encB_len (wpk (pathP V V.length k))
          rw [List.length_map] at this
          omega
        obtain ⟨st, hst⟩ : ∃ st, strOfNums (encB (wpk (pathP V V.length k))) = st := ⟨_, rfl⟩
        rw [hst] at hen hdl hss
        have HEN : Hid (∀ _ : Unit, _) := fun _ => hen
        have H4 : Hid (Below w.heap.size w w4 ∧ st.size ≤ 64 ∧ dL st.data.toList = wpk (pathP V V.length k)) := ⟨(HK0.out.1.trans (H3.out.2.mono (by have := HK0.out.2.2.1; omega))).trans (b4.mono (by have := H3.out.2.size; have := HK0.out.2.2.1; omega)), hss, hdl⟩
        clear hen hdl hss hst hm4 s4 b4
        go_wp2_with fail
        refine (HEN.out ()).mono ?_
        rintro e w5 ⟨rfl, b5⟩
        have H5 : Hid (Wits w w5 cs tl X Y st 0) := ⟨H4.out.1.trans (b5.mono H4.out.1.size), .inl ⟨rfl, H4.out.2.1, v.1, pathP V V.length k, HV.out.2.1, HOO.out, HV.out.2.2, H4.out.2.2⟩⟩
        clear b5 HEN
        go_wp2
        go_ret2
        exact ⟨_, _, rfl, H5.out⟩
      · have HZN : Hid (¬ OutOf cs tl v.1 X Y) := fun e => hz (HCZ.out.2 e)
        clear HCZ
        refine rgT 5 (h := ?_)
        refine wpAnyH_done (by kernel_rfl) ?_ _
        clear hHeld
        clear hHeld
        have HN : Hid (WL w0 w3 cs tl G B bb hb qb tv kb mb vv (.slice (some ⟨ge, 0, none⟩) E.length ce) V E X Y (t + 1)) := by
          refine ⟨⟨a2', H3.out.1⟩, H3.out.2, fun j k' v' hj hjk hv' => ?_⟩
          by_cases hjt : j < t
          · exact HO.out.2.2 j k' v' hjt hjk hv'
          · obtain rfl : j = t := by omega
            rw [HKE.out] at hjk
            injection hjk with hjk
            subst hjk
            rw [HV.out.1] at hv'
            injection hv' with hv'
            subst hv'
            exact HZN.out
        go_wp2
        go_roundw
        case rel => exact ⟨t + 1, by go_num, by omega, HN.out⟩
        case measure => simp [intOf]; omega
    · obtain rfl : t = E.length := by omega
      have HF : Hid (Wits w wr cs tl X Y ⟨#[]⟩ 36) := by
        refine ⟨HK0.out.1.trans (hO.2.1.mono (by have := HK0.out.2.2.1; omega)), .inr ⟨rfl, rfl, fun u hu => ?_⟩⟩
        obtain ⟨k, v, hk, hv, hvu⟩ := ends_all HX.out.1 HX.out.2.o hu
        rw [HE.out.1] at hk
        obtain ⟨j, hj⟩ := List.getElem?_of_mem hk
        rw [← hvu]
        exact hO.2.2 j k v (List.getElem?_eq_some_iff.1 hj).1 hj hv
      clear hO
      go_wp2
      go_ret2
      exact ⟨_, _, rfl, HF.out⟩
end Go.Proofs.YtdpebhdjcgiboaaGreat
