import Derived.Test.YtdpebhdjcgiboaaGreatSmc
namespace Go.Proofs.YtdpebhdjcgiboaaGreat
open Go.ChangeShapes Go.WideShapes Go.ChangeAt Go.RowKit Go.MuLone Go.RwLone
set_option linter.unusedVariables false
set_option maxRecDepth 100000
set_option maxHeartbeats 6400000
theorem owW_setx {w : World} {B g n c : Nat} {xs : List Int} (h : OwW w B (.slice (some ⟨g, 0, none⟩) n c) xs) (i : Nat) (hi : i < xs.length) (x : Int) : OwW (w.setCell ⟨g, i, none⟩ (.int .u64 x)) B (.slice (some ⟨g, 0, none⟩) n c) (xs.set i x) ∧ (∃ u, w.cell? ⟨g, i, none⟩ = some u) ∧ w.frozen? ⟨g, i, none⟩ = false := by
  have hnx := (owG_cap h).1
  subst hnx
  refine ⟨?_, ?_, World.ownsRow.frozenAt h i⟩
  · have h2 := (World.ownsRow.stored h i (.int .u64 x)).1
    have e : (xs.set i x).flatMap wdC = (xs.flatMap wdC).set i (.int .u64 x) := by
      rw [flat_wd, flat_wd, List.map_set]
    unfold OwW OwG
    rw [e, List.length_set]
    exact h2
  · exact ⟨_, (World.ownsRow.cellAt h i (by omega)).trans (by rw [flat_wd, List.getElem?_map, List.getElem?_eq_getElem hi]; rfl)⟩
/-- Two rows and what has grown upon them. -/
structure Gp (w wr : World) (D : Nat → Prop) (a1 a2 : Option Addr) (n1 n2 : Nat) (c r : Value) (zs us : List Int) (t1 t2 : Nat) : Prop where
  g1 : Gr wr a1 n1 1000 c zs
  g2 : Gr wr a2 n2 2000 r us
  l1 : zs.length = n1 + t1
  l2 : us.length = n2 + t2
  e1 : t1 = 0 ∨ zs[n1 + t1 - 1]? = some 3000
  e2 : t2 = 0 ∨ us[n2 + t2 - 1]? = some 4000
  dj : ∀ x, Cx a1 c x → ¬ Cx a2 r x
  f1 : ∀ x, Cx a1 c x → D x ∨ w.heap.size ≤ x
  f2 : ∀ x, Cx a2 r x → D x ∨ w.heap.size ≤ x
  k : Keeps D w wr
theorem Gp.left {w wr w3 : World} {D : Nat → Prop} {a1 a2 : Option Addr} {n1 n2 : Nat} {c r : Value} {zs us : List Int} {t1 t2 : Nat} (h : Gp w wr D a1 a2 n1 n2 c r zs us t1 t2) {b cap : Nat} (o : OwW w3 0 (.slice (some ⟨b, 0, none⟩) (zs.length + 1) cap) (zs ++ [3000])) (k : (c.ownBlock = some b ∧ Keeps (fun k => c.ownBlock = some k) wr w3) ∨ (wr.heap.size ≤ b ∧ Keeps (fun _ => False) wr w3)) :
    Gp w w3 D a1 a2 n1 n2 (.slice (some ⟨b, 0, none⟩) (zs.length + 1) cap) r (zs ++ [3000]) us (t1 + 1) t2 := by
  obtain ⟨g1, hn, kk⟩ := h.g1.app o k
  have hs := h.k.size
  have hl := h.l1
  have kD : Keeps (fun x => D x ∨ w.heap.size ≤ x) w w3 := (h.k.mono (fun _ e => .inl e)).trans (kk.mono h.f1)
  refine ⟨g1, h.g2.keeps kk (fun x e e' => h.dj x e e'), by simp; omega, h.l2, .inr ?_, h.e2, fun x hx hr => ?_, fun x hx => ?_, h.f2, kD.thin⟩
  · rw [List.getElem?_append_right (by omega), show n1 + (t1 + 1) - 1 - zs.length = 0 from by omega]
    rfl
  · rcases hn x hx with e | e
    · exact h.dj x e hr
    · have := h.g2.lt x hr
      omega
  · rcases hn x hx with e | e
    · exact h.f1 x e
    · right; omega
theorem Gp.right {w wr w3 : World} {D : Nat → Prop} {a1 a2 : Option Addr} {n1 n2 : Nat} {c r : Value} {zs us : List Int} {t1 t2 : Nat} (h : Gp w wr D a1 a2 n1 n2 c r zs us t1 t2) {b cap : Nat} (o : OwW w3 0 (.slice (some ⟨b, 0, none⟩) (us.length + 1) cap) (us ++ [4000])) (k : (r.ownBlock = some b ∧ Keeps (fun k => r.ownBlock = some k) wr w3) ∨ (wr.heap.size ≤ b ∧ Keeps (fun _ => False) wr w3)) :
    Gp w w3 D a1 a2 n1 n2 c (.slice (some ⟨b, 0, none⟩) (us.length + 1) cap) zs (us ++ [4000]) t1 (t2 + 1) := by
  obtain ⟨g2, hn, kk⟩ := h.g2.app o k
  have hs := h.k.size
  have hl := h.l2
  have kD : Keeps (fun x => D x ∨ w.heap.size ≤ x) w w3 := (h.k.mono (fun _ e => .inl e)).trans (kk.mono h.f2)
  refine ⟨h.g1.keeps kk (fun x e e' => h.dj x e' e), g2, h.l1, by simp; omega, h.e1, .inr ?_, fun x hx hr => ?_, h.f1, fun x hx => ?_, kD.thin⟩
  · rw [List.getElem?_append_right (by omega), show n2 + (t2 + 1) - 1 - us.length = 0 from by omega]
    rfl
  · rcases hn x hr with e | e
    · exact h.dj x hx e
    · have := h.g1.lt x hx
      omega
  · rcases hn x hx with e | e
    · exact h.f2 x e
    · right; omega
theorem Gp.still {w wr w3 : World} {D : Nat → Prop} {a1 a2 : Option Addr} {n1 n2 : Nat} {c r : Value} {zs us : List Int} {t1 t2 : Nat} (h : Gp w wr D a1 a2 n1 n2 c r zs us t1 t2) (k : Keeps (fun _ => False) wr w3) : Gp w w3 D a1 a2 n1 n2 c r zs us t1 t2 :=
  ⟨h.g1.keeps k (fun _ e => e.elim), h.g2.keeps k (fun _ e => e.elim), h.l1, h.l2, h.e1, h.e2, h.dj, h.f1, h.f2, h.k.trans (k.mono (fun _ e => e.elim))⟩
theorem Gp.start {w wr : World} {D : Nat → Prop} {a1 a2 : Option Addr} {n1 n2 y1 y2 : Nat} (o1 : OwW wr 0 (.slice a1 n1 y1) (List.replicate n1 1000)) (o2 : OwW wr 0 (.slice a2 n2 y2) (List.replicate n2 2000)) (dj : ∀ x, (Value.slice a1 n1 y1).ownBlock = some x → (Value.slice a2 n2 y2).ownBlock ≠ some x) (f1 : ∀ x, (Value.slice a1 n1 y1).ownBlock = some x → D x) (f2 : ∀ x, (Value.slice a2 n2 y2).ownBlock = some x → D x) (k : Keeps D w wr) :
    Gp w wr D a1 a2 n1 n2 (.slice a1 n1 y1) (.slice a2 n2 y2) (List.replicate n1 1000) (List.replicate n2 2000) 0 0 := by
  have c1 : ∀ x, Cx a1 (.slice a1 n1 y1) x → (Value.slice a1 n1 y1).ownBlock = some x := fun x hx => hx.elim id (fun e => by rw [e]; rfl)
  have c2 : ∀ x, Cx a2 (.slice a2 n2 y2) x → (Value.slice a2 n2 y2).ownBlock = some x := fun x hx => hx.elim id (fun e => by rw [e]; rfl)
  refine ⟨⟨o1, by simp, fun j hj => by simp [hj], fun g hg => ⟨(World.ownsRow.lt o1 g (by rw [hg]; rfl)).2, .inl (by rw [hg]; rfl)⟩⟩, ⟨o2, by simp, fun j hj => by simp [hj], fun g hg => ⟨(World.ownsRow.lt o2 g (by rw [hg]; rfl)).2, .inl (by rw [hg]; rfl)⟩⟩, by simp, by simp, .inl rfl, .inl rfl, fun x h1 h2 => dj x (c1 x h1) (c2 x h2), fun x hx => .inl (f1 x (c1 x hx)), fun x hx => .inl (f2 x (c2 x hx)), k⟩
theorem rep_of {n : Nat} {p : Int} {xs : List Int} (hl : xs.length = n) (h : ∀ j, j < n → xs[j]? = some p) : xs = List.replicate n p := by
  apply List.ext_getElem?
  intro j
  rcases Nat.lt_or_ge j n with hj | hj
  · rw [h j hj]; simp [hj]
  · rw [List.getElem?_eq_none (by omega), List.getElem?_eq_none (by simpa using hj)]
theorem infoSl64 : (Tryz.prog.info? 46).map (fun i => (i.zero, i.size, i.bytes)) = some (some (.slice none 0 0), 1, 24) := by kernel_rfl
def vC (v : Value) : List Value := [v]
/-- One outcome, written full and grown: the lists lie apart. -/
theorem apart_one (w : World) (ab : Nat) (a1 a2 : Option Addr) (y1 y2 n1 n2 : Nat) (X Y : List Int) (hX : X.length = n1) (hY : Y.length = n2) (hab : w.heap[ab]? = some (.cells #[.slice a1 n1 y1, .slice a2 n2 y2] 51)) (o1 : OwW w 0 (.slice a1 n1 y1) X) (o2 : OwW w 0 (.slice a2 n2 y2) Y) (d : ∀ x, (Value.slice a1 n1 y1).ownBlock = some x → (Value.slice a2 n2 y2).ownBlock ≠ some x) (b1 : (Value.slice a1 n1 y1).ownBlock ≠ some ab) (b2 : (Value.slice a2 n2 y2).ownBlock ≠ some ab) (hl1 : n1 ≤ 1048576) (hl2 : n2 ≤ 1048576) :
    Calls Tryz.prog 29 #[.slice (some ⟨ab, 0, none⟩) 1 1] w fun e w' => e = .returned (.bool true) ∧ Keeps (fun x => (Value.slice a1 n1 y1).ownBlock = some x ∨ (Value.slice a2 n2 y2).ownBlock = some x) w w' := by
  obtain ⟨D, hD⟩ : ∃ D : Nat → Prop, D = fun x => (Value.slice a1 n1 y1).ownBlock = some x ∨ (Value.slice a2 n2 y2).ownBlock = some x := ⟨_, rfl⟩
  rw [← hD]
  have HD : Hid ((∀ x, (Value.slice a1 n1 y1).ownBlock = some x → D x) ∧ (∀ x, (Value.slice a2 n2 y2).ownBlock = some x → D x) ∧ (∀ x, (Value.slice a1 n1 y1).ownBlock = some x → (Value.slice a2 n2 y2).ownBlock ≠ some x)) := ⟨fun x e => by rw [hD]; exact .inl e, fun x e => by rw [hD]; exact .inr e, d⟩
  have HC : Hid (∀ W, Keeps D w W → W.cell? ⟨ab, 0, none⟩ = some (.slice a1 n1 y1) ∧ W.cell? ⟨ab, 1, none⟩ = some (.slice a2 n2 y2)) := fun W k => by
    have e := (k.block ab (Array.getElem?_eq_some_iff.1 hab).1 (fun e => by rw [hD] at e; exact e.elim b1 b2)).trans hab
    exact ⟨(cell?_heap e 0).trans rfl, (cell?_heap e 1).trans rfl⟩
  have HA : Hid ((0 < n1 → ∃ g, a1 = some ⟨g, 0, none⟩) ∧ (0 < n2 → ∃ g, a2 = some ⟨g, 0, none⟩)) := by
    refine ⟨fun h => ?_, fun h => ?_⟩
    · obtain ⟨g, cap, e, _, _⟩ := owG_some o1 (by intro e; rw [e] at hX; simp at hX; omega)
      injection e with e _ _
      exact ⟨g, e⟩
    · obtain ⟨g, cap, e, _, _⟩ := owG_some o2 (by intro e; rw [e] at hY; simp at hY; omega)
      injection e with e _ _
      exact ⟨g, e⟩
  have H0 : Hid (OwW w 0 (.slice a1 n1 y1) X ∧ OwW w 0 (.slice a2 n2 y2) Y ∧ X.length = n1 ∧ Y.length = n2) := ⟨o1, o2, hX, hY⟩
  clear hab o1 o2 hX hY d b1 b2 hD
  go_enter Tryz.func29, Tryz.ntmps29
  go_wp2_with fail
  go_loopw [4] (fun d wr => (d = .int .i64 0 ∧ w = wr) ∨ (d = .int .i64 1 ∧ OwW wr 0 (.slice a1 n1 y1) (List.replicate n1 1000) ∧ OwW wr 0 (.slice a2 n2 y2) (List.replicate n2 2000) ∧ Keeps D w wr)) (fun d _ => 1 - (intOf d).toNat)
  case atStart => exact .inl ⟨rfl, rfl⟩
  case round =>
    rcases hrel with ⟨rfl, rfl⟩ | ⟨rfl, hF⟩
    · go_wp2_with fail
      go_loopw [5] (fun d wr => ∃ (t : Nat) (xs : List Int), d = .int .i64 t ∧ t ≤ n1 ∧ xs.length = n1 ∧ (∀ j, j < t → xs[j]? = some 1000) ∧ OwW wr 0 (.slice a1 n1 y1) xs ∧ Keeps (fun x => (Value.slice a1 n1 y1).ownBlock = some x) w wr) (fun d _ => n1 - (intOf d).toNat)
      case atStart => exact ⟨0, X, rfl, by omega, H0.out.2.2.1, fun j hj => by omega, H0.out.1, Keeps.refl _ _⟩
      case round =>
        obtain ⟨t, xs, rfl, ht, hxl, hxv, how, hk⟩ := hrel
        have HQ : Hid (Keeps (fun x => (Value.slice a1 n1 y1).ownBlock = some x) w wr ∧ OwW wr 0 (.slice a1 n1 y1) xs ∧ (∀ j, j < t → xs[j]? = some 1000) ∧ xs.length = n1) := ⟨hk, how, hxv, hxl⟩
        obtain ⟨c0, c1⟩ := HC.out wr (hk.mono HD.out.1)
        clear hk hxv
        by_cases h5 : t < n1
        · have t0 : (0 : Int) ≤ (t : Int) := Int.natCast_nonneg _
          have t1 : (t : Int) < (n1 : Int) := by omega
          obtain ⟨g, gcap, eg, _, _⟩ := owG_some how (by intro e; rw [e] at hxl; simp at hxl; omega)
          injection eg with eg eg2 eg3
          clear eg2 eg3
          subst eg
          obtain ⟨st1, ⟨u, st2⟩, st3⟩ := owW_setx how t (by omega) 1000
          have HN : Hid (Keeps (fun x => (Value.slice (some ⟨g, 0, none⟩) n1 y1).ownBlock = some x) w (wr.setCell ⟨g, t, none⟩ (.int .u64 1000)) ∧ OwW (wr.setCell ⟨g, t, none⟩ (.int .u64 1000)) 0 (.slice (some ⟨g, 0, none⟩) n1 y1) (xs.set t 1000) ∧ (∀ j, j < t + 1 → (xs.set t 1000)[j]? = some 1000) ∧ (xs.set t 1000).length = n1) := ⟨HQ.out.1.setCell (p := ⟨g, t, none⟩) rfl _, st1, fun j hj => by
            by_cases e : j = t
            · subst e; rw [List.getElem?_set_self (by omega)]
            · rw [List.getElem?_set_ne (by omega)]; exact HQ.out.2.2.1 j (by omega), by rw [List.length_set]; exact hxl⟩
          clear how hxl st1 HQ
          go_wp2
          go_roundw
          case rel => exact ⟨t + 1, _, by go_num, by omega, HN.out.2.2.2, HN.out.2.2.1, HN.out.2.1, HN.out.1⟩
          case measure => simp [intOf]; omega
        · have hte : n1 = t := by omega
          subst hte
          have H1 : Hid (OwW wr 0 (.slice a1 n1 y1) (List.replicate n1 1000) ∧ Keeps (fun x => (Value.slice a1 n1 y1).ownBlock = some x) w wr ∧ OwW wr 0 (.slice a2 n2 y2) Y) := ⟨by rw [← rep_of hxl HQ.out.2.2.1]; exact how, HQ.out.1, owK H0.out.2.1 HQ.out.1 (fun g hg e => HD.out.2.2 g e hg)⟩
          clear how hxl HQ c1 c0
          rename World => wx
          have c0 := (HC.out wx (H1.out.2.1.mono HD.out.1)).1
          go_wp2_with fail
          go_loopw [6] (fun d wr => ∃ (t : Nat) (xs : List Int), d = .int .i64 t ∧ t ≤ n2 ∧ xs.length = n2 ∧ (∀ j, j < t → xs[j]? = some 2000) ∧ OwW wr 0 (.slice a2 n2 y2) xs ∧ OwW wr 0 (.slice a1 n1 y1) (List.replicate n1 1000) ∧ Keeps D w wr) (fun d _ => n2 - (intOf d).toNat)
          case atStart => exact ⟨0, Y, rfl, by omega, H0.out.2.2.2, fun j hj => by omega, H1.out.2.2, H1.out.1, H1.out.2.1.mono HD.out.1⟩
          case round =>
            clear H1 c0
            obtain ⟨t, xs, rfl, ht, hxl, hxv, how, ho1, hk⟩ := hrel
            have HQ : Hid (Keeps D w wr ∧ OwW wr 0 (.slice a2 n2 y2) xs ∧ (∀ j, j < t → xs[j]? = some 2000) ∧ xs.length = n2 ∧ OwW wr 0 (.slice a1 n1 y1) (List.replicate n1 1000)) := ⟨hk, how, hxv, hxl, ho1⟩
            obtain ⟨c0, c1⟩ := HC.out wr hk
            clear hk hxv ho1
            by_cases h5 : t < n2
            · have t0 : (0 : Int) ≤ (t : Int) := Int.natCast_nonneg _
              have t1 : (t : Int) < (n2 : Int) := by omega
              obtain ⟨g, gcap, eg, _, _⟩ := owG_some how (by intro e; rw [e] at hxl; simp at hxl; omega)
              injection eg with eg eg2 eg3
              clear eg2 eg3
              subst eg
              obtain ⟨st1, ⟨u, st2⟩, st3⟩ := owW_setx how t (by omega) 2000
              have HN : Hid (Keeps D w (wr.setCell ⟨g, t, none⟩ (.int .u64 2000)) ∧ OwW (wr.setCell ⟨g, t, none⟩ (.int .u64 2000)) 0 (.slice (some ⟨g, 0, none⟩) n2 y2) (xs.set t 2000) ∧ (∀ j, j < t + 1 → (xs.set t 2000)[j]? = some 2000) ∧ (xs.set t 2000).length = n2 ∧ OwW (wr.setCell ⟨g, t, none⟩ (.int .u64 2000)) 0 (.slice a1 n1 y1) (List.replicate n1 1000)) := ⟨HQ.out.1.setCell (p := ⟨g, t, none⟩) (HD.out.2.1 g rfl) _, st1, fun j hj => by
                by_cases e : j = t
                · subst e; rw [List.getElem?_set_self (by omega)]
                · rw [List.getElem?_set_ne (by omega)]; exact HQ.out.2.2.1 j (by omega), by rw [List.length_set]; exact hxl, owK HQ.out.2.2.2.2 (Keeps.setCell (B := fun x => x = g) (Keeps.refl _ _) (p := ⟨g, t, none⟩) rfl _) (fun x hx e => HD.out.2.2 x hx (by rw [e]; rfl))⟩
              clear how hxl st1 HQ
              go_wp2
              go_roundw
              case rel => exact ⟨t + 1, _, by go_num, by omega, HN.out.2.2.2.1, HN.out.2.2.1, HN.out.2.1, HN.out.2.2.2.2, HN.out.1⟩
              case measure => simp [intOf]; omega
            · have hte : n2 = t := by omega
              subst hte
              have H1 : Hid (OwW wr 0 (.slice a1 n1 y1) (List.replicate n1 1000) ∧ OwW wr 0 (.slice a2 n2 y2) (List.replicate n2 2000) ∧ Keeps D w wr) := ⟨HQ.out.2.2.2.2, by rw [← rep_of hxl HQ.out.2.2.1]; exact how, HQ.out.1⟩
              clear how hxl HQ
              go_wp2
              go_roundw
              case rel => exact .inr ⟨by go_num, H1.out⟩
              case measure => simp [intOf]
    · have HF : Hid (OwW wr 0 (.slice a1 n1 y1) (List.replicate n1 1000) ∧ OwW wr 0 (.slice a2 n2 y2) (List.replicate n2 2000) ∧ Keeps D w wr) := hF
      clear hF H0
      go_wp2_with fail
      go_loopw [7, 3] (fun c7 c3 wr => (c7 = .int .i64 0 ∧ c3 = .slice none 0 0 ∧ OwW wr 0 (.slice a1 n1 y1) (List.replicate n1 1000) ∧ OwW wr 0 (.slice a2 n2 y2) (List.replicate n2 2000) ∧ Keeps D w wr) ∨ (c7 = .int .i64 1 ∧ ∃ (mb mcap : Nat) (c r : Value) (zs us : List Int), c3 = .slice (some ⟨mb, 0, none⟩) 2 mcap ∧ wr.cell? ⟨mb, 0, none⟩ = some c ∧ wr.cell? ⟨mb, 1, none⟩ = some r ∧ Gp w wr D a1 a2 n1 n2 c r zs us 40 40)) (fun c7 _ _ => 1 - (intOf c7).toNat)
      case atStart => exact .inl ⟨rfl, rfl, HF.out⟩
      case round =>
        clear HF
        rcases hrel with ⟨rfl, rfl, hF⟩ | ⟨rfl, mb, mcap, c, r, zs, us, rfl, m0, m1, hG⟩
        · have HF : Hid (OwW wr 0 (.slice a1 n1 y1) (List.replicate n1 1000) ∧ OwW wr 0 (.slice a2 n2 y2) (List.replicate n2 2000) ∧ Keeps D w wr) := hF
          clear hF
          obtain ⟨c0, c1⟩ := HC.out wr HF.out.2.2
          go_wp2_with fail
          go_loopw [8, 9, 10] (fun d8 d9 d10 wr => ∃ (t : Nat) (c r : Value) (zs us : List Int), c = d8 ∧ r = d9 ∧ d10 = .int .i64 t ∧ t ≤ 40 ∧ Gp w wr D a1 a2 n1 n2 c r zs us t t) (fun _ _ d10 _ => 40 - (intOf d10).toNat)
          case atStart => exact ⟨0, _, _, _, _, rfl, rfl, rfl, by omega, Gp.start HF.out.1 HF.out.2.1 HD.out.2.2 HD.out.1 HD.out.2.1 HF.out.2.2⟩
          case round =>
            clear HF c0 c1
            obtain ⟨t, c, r, zs, us, rfl, rfl, rfl, ht, hG⟩ := hrel
            obtain ⟨ca, cc, rfl⟩ := hG.g1.o.form
            obtain ⟨ra, rc, rfl⟩ := hG.g2.o.form
            have HG : Hid (Gp w wr D a1 a2 n1 n2 (.slice ca zs.length cc) (.slice ra us.length rc) zs us t t) := hG
            have l1 : zs.length ≤ 1048616 := by have := hG.l1; omega
            have l2 : us.length ≤ 1048616 := by have := hG.l2; omega
            clear hG
            by_cases h6 : t < 40
            · have t0 : (0 : Int) ≤ (t : Int) := Int.natCast_nonneg _
              have t1 : (t : Int) < 40 := by omega
              go_wp2_with (at_builtin; refine hideG ?_)
              change wpList _ _ _ _ _ _
              refine app_stay (cs := wdC) (wr := wr) (by rfl) _ _ 46 55 (by rfl) Tryz.underlying46 infoU64 rfl (by decide) (fun _ => rfl) _ zs 3000 HG.out.g1.o (by rfl) wr.heap.size rfl (by rfl) (wdC_one _) _ rfl (by unfold maxLen; omega) (by omega) ?_
              intro b k w3 ho3 hk3 hb3
              have HG2 : Hid (Gp w w3 D a1 a2 n1 n2 (.slice (some ⟨b, 0, none⟩) (zs.length + 1) k) (.slice ra us.length rc) (zs ++ [3000]) us (t + 1) t) := HG.out.left ho3 hk3
              clear ho3 hk3 hb3 HG
              go_wp2_with (at_builtin; refine hideG ?_)
              change wpList _ _ _ _ _ _
              refine app_stay (cs := wdC) (wr := w3) (by rfl) _ _ 46 55 (by rfl) Tryz.underlying46 infoU64 rfl (by decide) (fun _ => rfl) _ us 4000 HG2.out.g2.o (by rfl) w3.heap.size rfl (by rfl) (wdC_one _) _ rfl (by unfold maxLen; omega) (by omega) ?_
              intro b4 k4 w4 ho4 hk4 hb4
              have HG3 : Hid (Gp w w4 D a1 a2 n1 n2 (.slice (some ⟨b, 0, none⟩) (zs.length + 1) k) (.slice (some ⟨b4, 0, none⟩) (us.length + 1) k4) (zs ++ [3000]) (us ++ [4000]) (t + 1) (t + 1)) := HG2.out.right ho4 hk4
              clear ho4 hk4 hb4 HG2
              go_wp2
              go_roundw
              case rel => exact ⟨t + 1, _, _, _, _, rfl, rfl, by go_num, by omega, HG3.out⟩
              case measure => simp [intOf]; omega
            · have hte : 40 = t := by omega
              subst hte
              go_wp2_with (at_builtin; refine hideG ?_)
              change wpList _ _ _ _ _ _
              have hb0 : (wr.alloc (.cells #[.slice ca zs.length cc, .slice ra us.length rc] 46)).heap[wr.heap.size]? = some (.cells #[.slice ca zs.length cc, .slice ra us.length rc] 46) := heap_alloc_last _ _ _ rfl
              have hin : InG vC (wr.alloc (.cells #[.slice ca zs.length cc, .slice ra us.length rc] 46)) (wr.alloc (.cells #[.slice ca zs.length cc, .slice ra us.length rc] 46)).heap.size (.slice (some ⟨wr.heap.size, 0, none⟩) 2 2) [.slice ca zs.length cc, .slice ra us.length rc] := by
                refine ⟨some ⟨wr.heap.size, 0, none⟩, 2, rfl, Nat.le_refl _, (fun e => by cases e), fun j u hj => ⟨wr.heap.size, 0, rfl, by rw [szAl]; omega, ?_⟩⟩
                rw [Nat.zero_add]
                exact (cell?_heap hb0 j).trans (by simpa [vC] using hj)
              refine app_more (cs := vC) (by rfl) _ _ 141 46 (by rfl) Tryz.underlying141 infoSl64 rfl (by decide) (fun _ => rfl) (wr.alloc (.cells #[.slice ca zs.length cc, .slice ra us.length rc] 46)).heap.size _ [] (OwG.nil _ _ _ _ _) (by rfl) (wr.alloc (.cells #[.slice ca zs.length cc, .slice ra us.length rc] 46)).heap.size _ [.slice ca zs.length cc, .slice ra us.length rc] (by rfl) hin (fun y hy u hu => ?_) (by unfold maxLen; simp) (by simp) (Nat.le_refl _) ?_
              · simp [vC] at hy hu
                subst hu
                rcases hy with rfl | rfl <;> rfl
              intro v' w5 ho5 hb5 hk5
              obtain ⟨mb, mcap, rfl, _, _⟩ := owG_some ho5 (by simp)
              have k5 : Keeps (fun _ => False) wr w5 := ((Keeps.refl _ _).alloc _).trans (Below.keeps hb5 _)
              have H5 : Hid (w5.cell? ⟨mb, 0, none⟩ = some (.slice ca zs.length cc) ∧ w5.cell? ⟨mb, 1, none⟩ = some (.slice ra us.length rc) ∧ Gp w w5 D a1 a2 n1 n2 (.slice ca zs.length cc) (.slice ra us.length rc) zs us 40 40) := ⟨(World.ownsRow.cellAt ho5 0 (by simp)).trans rfl, (World.ownsRow.cellAt ho5 1 (by simp)).trans rfl, HG.out.still k5⟩
              clear ho5 hb5 hk5 k5 HG hb0 hin
              go_wp2
              go_roundw
              case rel => exact .inr ⟨by go_num, mb, mcap, _, _, _, _, rfl, H5.out.1, H5.out.2.1, H5.out.2.2⟩
              case measure => simp [intOf]
        · have hzl := hG.l1
          have hul := hG.l2
          obtain ⟨cb, cc, rfl, _, _⟩ := owG_some hG.g1.o (by intro e; rw [e] at hzl; simp at hzl)
          obtain ⟨db, dc, rfl, _, _⟩ := owG_some hG.g2.o (by intro e; rw [e] at hul; simp at hul)
          obtain ⟨N, hN⟩ : ∃ N, zs.length = N + 1 := ⟨zs.length - 1, by omega⟩
          obtain ⟨M, hM⟩ : ∃ M, us.length = M + 1 := ⟨us.length - 1, by omega⟩
          have q1 : wr.cell? ⟨cb, N, none⟩ = some (.int .u64 3000) := owW_cell hG.g1.o N 3000 (by
            rcases hG.e1 with e | e
            · cases e
            · rw [show N = n1 + 40 - 1 from by omega]; exact e)
          have q2 : wr.cell? ⟨db, M, none⟩ = some (.int .u64 4000) := owW_cell hG.g2.o M 4000 (by
            rcases hG.e2 with e | e
            · cases e
            · rw [show M = n2 + 40 - 1 from by omega]; exact e)
          have HG : Hid (Gp w wr D a1 a2 n1 n2 (.slice (some ⟨cb, 0, none⟩) zs.length cc) (.slice (some ⟨db, 0, none⟩) us.length dc) zs us 40 40) := hG
          have N0 : N ≤ 1048616 := by omega
          have M0 : M ≤ 1048616 := by omega
          rw [hN] at m0
          rw [hM] at m1
          obtain ⟨c0, c1⟩ := HC.out wr hG.k
          clear hG hzl hul hN hM
          obtain ⟨W2, rfl⟩ : ∃ W2, W2 = wr := ⟨_, rfl⟩
          go_wp2_with fail
          go_loopw [11] (fun d wr => (d = .int .i64 0 ∧ W2 = wr) ∨ (d = .int .i64 1 ∧ W2 = wr)) (fun d _ => 1 - (intOf d).toNat)
          case atStart => exact .inl ⟨rfl, rfl⟩
          case round =>
            rcases hrel with ⟨rfl, rfl⟩ | ⟨rfl, rfl⟩
            · go_wp2_with fail
              go_loopw [12] (fun d wr => ∃ t : Nat, d = .int .i64 t ∧ t ≤ n1 ∧ W2 = wr) (fun d _ => n1 - (intOf d).toNat)
              case atStart => exact ⟨0, rfl, by omega, rfl⟩
              case round =>
                obtain ⟨t, rfl, ht, rfl⟩ := hrel
                by_cases h5 : t < n1
                · have t0 : (0 : Int) ≤ (t : Int) := Int.natCast_nonneg _
                  have t1 : (t : Int) < (n1 : Int) := by omega
                  obtain ⟨g, rfl⟩ := HA.out.1 (by omega)
                  have q := HG.out.g1.cell g rfl t h5
                  go_wp2
                  go_roundw
                  case rel => exact ⟨t + 1, by go_num, by omega, trivial⟩
                  case measure => simp [intOf]; omega
                · clear ht
                  go_wp2_with fail
                  go_loopw [13] (fun d wr => ∃ t : Nat, d = .int .i64 t ∧ t ≤ n2 ∧ W2 = wr) (fun d _ => n2 - (intOf d).toNat)
                  case atStart => exact ⟨0, rfl, by omega, rfl⟩
                  case round =>
                    obtain ⟨t, rfl, ht, rfl⟩ := hrel
                    by_cases h5 : t < n2
                    · have t0 : (0 : Int) ≤ (t : Int) := Int.natCast_nonneg _
                      have t1 : (t : Int) < (n2 : Int) := by omega
                      obtain ⟨g, rfl⟩ := HA.out.2 (by omega)
                      have q := HG.out.g2.cell g rfl t h5
                      go_wp2
                      go_roundw
                      case rel => exact ⟨t + 1, by go_num, by omega, trivial⟩
                      case measure => simp [intOf]; omega
                    · clear ht
                      go_wp2
                      go_roundw
                      case rel => exact .inr ⟨by go_num, trivial⟩
                      case measure => simp [intOf]
            · go_wp2
              go_ret
              exact ⟨rfl, HG.out.k⟩
end Go.Proofs.YtdpebhdjcgiboaaGreat

namespace Go.Proofs.YtdpebhdjcgiboaaGreat
open Go.ChangeShapes Go.WideShapes Go.ChangeAt Go.RowKit Go.MuLone Go.RwLone
set_option linter.unusedVariables false
set_option maxRecDepth 100000
set_option maxHeartbeats 6400000
/-- The program's outcome: its two lists lie apart. -/
theorem boutD (w : World) (G : Nat → Prop) (B : Bd) (hB : BdOk B) (bb hb qb : Nat) (tv : Value) (a : Hp × Ls) (b : BnF w G B bb hb qb tv a) (hn4 : 1 ≤ B.n ∧ B.n ≤ 4) (X Y : List Int) (hX : X = wlL a.2.wo B.wd) (hY : Y = regsL a.2.rg B.n) :
    Calls Tryz.prog 80 #[.pointer (some ⟨bb, 0, none⟩)] w fun e w' => ∃ c1 k1 c2 k2, e = .returned (.tuple #[.agg #[.slice c1 X.length k1, .slice c2 Y.length k2], .bool (idleP a.1)]) ∧ OwW w' w.heap.size (.slice c1 X.length k1) X ∧ OwW w' w.heap.size (.slice c2 Y.length k2) Y ∧ (∀ x, (Value.slice c1 X.length k1).ownBlock = some x → (Value.slice c2 Y.length k2).ownBlock ≠ some x) ∧ BnF w' G B bb hb qb tv a ∧ Keeps G w w' := by
  refine (outcomeG _ w B hB bb hb qb tv a b.g hn4).mono ?_
  rintro e w' ⟨g, rv, he, o1, o2, k, ho⟩
  have hg := (World.ownsRow.lt o1 g rfl).1
  obtain ⟨F, qv, ev, en, m, d, l, nb, nt⟩ := b.h
  have lb := (Array.getElem?_eq_some_iff.1 b.be).1
  subst hX hY
  obtain ⟨ra, rc, rfl⟩ := o2.form
  have hl : (wlL a.2.wo B.wd).length = B.wd := by simp [wlL]
  rw [hl]
  exact ⟨_, _, _, _, he, o1, o2.down (by omega), (fun x hx e => by have : g = x := Option.some.inj hx; have := (World.ownsRow.lt o2 x e).1; omega), ⟨⟨F, qv, ev, en, m.keeps k (fun x hx hF => d x hF (.inl hx)), d, l, nb, nt⟩, ho, b.lo, b.iv, (k.block bb lb (fun e => b.nb (.inl e))).trans b.be, owK b.ot k (fun g hg e => b.nt g hg (.inl e)), b.nb, b.nt, b.gb, b.gt, fun y hy => Nat.lt_of_lt_of_le (b.gl y hy) k.size⟩, k.mono (fun y e => b.lo y (.inl e))⟩
/-- The program's bench was looked at. -/
theorem PSt.bout {w w' : World} {G H P Q : Nat → Prop} {B : Bd} {bb b1 b2 : Nat} {tv : Value} {R : Rd} {r1 r2 hb qb rb sb sd : Nat} {a0 : Hp} {a : Hp × Ls} {ts : List (List I8)} {wd c nw : Nat} (p : PSt w G H P Q B bb b1 b2 tv R r1 r2 hb qb rb sb sd a0 a ts wd c nw) (b : BnF w' G B bb b1 b2 tv (a0, a.2)) (k : Keeps G w w') : PSt w' G H P Q B bb b1 b2 tv R r1 r2 hb qb rb sb sd a0 a ts wd c nw := by
  obtain ⟨v1, v2, v3, m⟩ := p.q.m
  obtain ⟨u1, u2, u3, n⟩ := p.q.n
  exact ⟨p.ok, ⟨b, p.q.r.keeps k (fun y e e' => p.q.gh y e e'), ⟨v1, v2, v3, m.keeps k (fun y e e' => p.q.gp y e e')⟩, ⟨u1, u2, u3, n.keeps k (fun y e e' => p.q.gq y e e')⟩, p.q.gh, p.q.gp, p.q.gq, p.q.hp, p.q.hq, p.q.pq⟩, (k.block sd (Array.getElem?_eq_some_iff.1 p.bs).1 (fun e => p.ns (.inl e))).trans p.bs, p.ns, p.iw, p.nq⟩
/-- The outcome, on both sides. -/
theorem lk_outcome (w : World) (G H P Q : Nat → Prop) (B : Bd) (bb b1 b2 : Nat) (tv : Value) (R : Rd) (r1 r2 hb qb rb sb sd : Nat) (a0 : Hp) (a : Hp × Ls) (ts : List (List I8)) (wd c nw : Nat) (p : PSt w G H P Q B bb b1 b2 tv R r1 r2 hb qb rb sb sd a0 a ts wd c nw) (wh tg nn : Int) (pa : Option Addr) (pn pc : Nat) (ma : Option Addr) (mn mc : Nat) :
    Calls Tryz.prog 36 #[.pointer (some ⟨sd, 0, none⟩), .agg (opC 12 wh tg nn (.slice pa pn pc) (.slice ma mn mc))] w fun e w' => e = .returned (.bool true) ∧ MvP w G H P Q B bb b1 b2 tv R r1 r2 hb qb rb sb sd a0 ts wd c nw w' := by
  obtain ⟨X, hX⟩ : ∃ X, X = wlL a.2.wo B.wd := ⟨_, rfl⟩
  obtain ⟨Y, hY⟩ : ∃ Y, Y = regsL a.2.rg B.n := ⟨_, rfl⟩
  have k0 : Keeps (fun _ => False) w (opW w 12 wh tg nn (.slice pa pn pc) (.slice ma mn mc)) := (Keeps.refl _ _).alloc _
  have sz : (opW w 12 wh tg nn (.slice pa pn pc) (.slice ma mn mc)).heap.size = w.heap.size + 1 := szAl _ _
  have HP0 : Hid (PSt w G H P Q B bb b1 b2 tv R r1 r2 hb qb rb sb sd a0 a ts wd c nw) := p
  have HP : Hid (PSt (opW w 12 wh tg nn (.slice pa pn pc) (.slice ma mn mc)) G H P Q B bb b1 b2 tv R r1 r2 hb qb rb sb sd a0 a ts wd c nw) := p.still k0
  have HK0 : Hid (Keeps (fun _ => False) w (opW w 12 wh tg nn (.slice pa pn pc) (.slice ma mn mc))) := k0
  have hw4 : X.length ≤ 4 := by rw [hX]; have := p.ok.w4; have := p.ok.w1; simp [wlL]; omega
  have hy4 : Y.length ≤ 16 := by rw [hY, regsL_len]; have := p.ok.n1; have := p.ok.n4; omega
  have HX : Hid (X = wlL a.2.wo B.wd ∧ Y = regsL a.2.rg B.n ∧ X = wlL a.2.wo R.wd ∧ Y = regsL a.2.rg R.n) := ⟨hX, hY, by rw [hX, p.ok.w1, p.ok.w2], by rw [hY, p.ok.n1, p.ok.n2]⟩
  have HS : Hid (∀ W, PSt W G H P Q B bb b1 b2 tv R r1 r2 hb qb rb sb sd a0 a ts wd c nw → W.cell? ⟨sd, 1, none⟩ = some (.pointer (some ⟨bb, 0, none⟩)) ∧ W.cell? ⟨sd, 3, none⟩ = some (.pointer (some ⟨R.bk, 0, none⟩)) ∧ W.cell? ⟨R.bk, 2, none⟩ = some (.pointer (some ⟨r1, 0, none⟩))) := fun W q => ⟨(cell?_heap q.bs 1).trans rfl, (cell?_heap q.bs 3).trans rfl, q.q.r.hp⟩
  obtain ⟨idl, hid⟩ : ∃ idl, idl = idleP a0 := ⟨_, rfl⟩
  have HID : Hid (idl = idleP a0) := hid
  have HB : Hid (∀ W, PSt W G H P Q B bb b1 b2 tv R r1 r2 hb qb rb sb sd a0 a ts wd c nw → Calls Tryz.prog 80 #[.pointer (some ⟨bb, 0, none⟩)] W fun e w' => ∃ c1 k1 c2 k2, e = .returned (.tuple #[.agg #[.slice c1 X.length k1, .slice c2 Y.length k2], .bool idl]) ∧ OwW w' W.heap.size (.slice c1 X.length k1) X ∧ OwW w' W.heap.size (.slice c2 Y.length k2) Y ∧ (∀ x, (Value.slice c1 X.length k1).ownBlock = some x → (Value.slice c2 Y.length k2).ownBlock ≠ some x) ∧ BnF w' G B bb b1 b2 tv (a0, a.2) ∧ Keeps G W w') := fun W q => by
    rw [hid]
    exact boutD W G B q.ok.hB bb b1 b2 tv (a0, a.2) q.q.b (by rw [q.ok.n1]; exact q.ok.n4) X Y hX hY
  clear p hX hY hid k0
  have cs1 := (HS.out _ HP.out).1
  go_enter Tryz.func36, Tryz.ntmps36
  go_wp2_with fail
  refine (HB.out _ HP.out).mono ?_
  rintro e w1 ⟨c1, k1, c2, k2, rfl, o1, o2, d1, b1', kb⟩
  rw [sz] at o1 o2
  have z1 : w.heap.size + 1 ≤ w1.heap.size := by rw [← sz]; exact kb.size
  have H1 : Hid (PSt (w1.alloc (.cells #[.slice c1 X.length k1, .slice c2 Y.length k2] 51)) G H P Q B bb b1 b2 tv R r1 r2 hb qb rb sb sd a0 a ts wd c nw ∧ OwW (w1.alloc (.cells #[.slice c1 X.length k1, .slice c2 Y.length k2] 51)) (w.heap.size + 1) (.slice c1 X.length k1) X ∧ OwW (w1.alloc (.cells #[.slice c1 X.length k1, .slice c2 Y.length k2] 51)) (w.heap.size + 1) (.slice c2 Y.length k2) Y ∧ Keeps G (opW w 12 wh tg nn (.slice pa pn pc) (.slice ma mn mc)) (w1.alloc (.cells #[.slice c1 X.length k1, .slice c2 Y.length k2] 51)) ∧ (w1.alloc (.cells #[.slice c1 X.length k1, .slice c2 Y.length k2] 51)).heap[w1.heap.size]? = some (.cells #[.slice c1 X.length k1, .slice c2 Y.length k2] 51) ∧ (w1.alloc (.cells #[.slice c1 X.length k1, .slice c2 Y.length k2] 51)).heap.size = w1.heap.size + 1) := by
    have kA : Keeps (fun _ => False) w1 (w1.alloc (.cells #[.slice c1 X.length k1, .slice c2 Y.length k2] 51)) := (Keeps.refl _ _).alloc _
    exact ⟨(HP.out.bout b1' kb).still kA, owK o1 kA (fun _ _ e => e), owK o2 kA (fun _ _ e => e), kb.trans (kA.mono (fun _ e => e.elim)), heap_alloc_last _ _ _ rfl, szAl _ _⟩
  have HD1 : Hid ((∀ x, (Value.slice c1 X.length k1).ownBlock = some x → (Value.slice c2 Y.length k2).ownBlock ≠ some x) ∧ (∀ x, (Value.slice c1 X.length k1).ownBlock = some x → w.heap.size < x ∧ x < w1.heap.size) ∧ (∀ x, (Value.slice c2 Y.length k2).ownBlock = some x → w.heap.size < x ∧ x < w1.heap.size)) := ⟨d1, fun x hx => ⟨(World.ownsRow.lt o1 x hx).1, (World.ownsRow.lt o1 x hx).2⟩, fun x hx => ⟨(World.ownsRow.lt o2 x hx).1, (World.ownsRow.lt o2 x hx).2⟩⟩
  clear o1 o2 d1 b1' kb cs1 HP
  have cs1 := (HS.out _ H1.out.1).1
  go_wp2_with fail
  refine (HB.out _ H1.out.1).mono ?_
  rintro e w2 ⟨c3, k3, c4, k4, rfl, o3, o4, d2, b2', kb⟩
  rw [H1.out.2.2.2.2.2] at o3 o4
  have z2 : w1.heap.size + 1 ≤ w2.heap.size := by rw [← H1.out.2.2.2.2.2]; exact kb.size
  have H2 : Hid (PSt (w2.alloc (.cells #[.slice c3 X.length k3, .slice c4 Y.length k4] 51)) G H P Q B bb b1 b2 tv R r1 r2 hb qb rb sb sd a0 a ts wd c nw ∧ OwW (w2.alloc (.cells #[.slice c3 X.length k3, .slice c4 Y.length k4] 51)) (w.heap.size + 1) (.slice c1 X.length k1) X ∧ OwW (w2.alloc (.cells #[.slice c3 X.length k3, .slice c4 Y.length k4] 51)) (w.heap.size + 1) (.slice c2 Y.length k2) Y ∧ Keeps G (opW w 12 wh tg nn (.slice pa pn pc) (.slice ma mn mc)) (w2.alloc (.cells #[.slice c3 X.length k3, .slice c4 Y.length k4] 51)) ∧ (w2.alloc (.cells #[.slice c3 X.length k3, .slice c4 Y.length k4] 51)).heap[w1.heap.size]? = some (.cells #[.slice c1 X.length k1, .slice c2 Y.length k2] 51) ∧ (w2.alloc (.cells #[.slice c3 X.length k3, .slice c4 Y.length k4] 51)).heap.size = w2.heap.size + 1 ∧ OwW (w2.alloc (.cells #[.slice c3 X.length k3, .slice c4 Y.length k4] 51)) (w1.heap.size + 1) (.slice c3 X.length k3) X ∧ OwW (w2.alloc (.cells #[.slice c3 X.length k3, .slice c4 Y.length k4] 51)) (w1.heap.size + 1) (.slice c4 Y.length k4) Y ∧ (w2.alloc (.cells #[.slice c3 X.length k3, .slice c4 Y.length k4] 51)).heap[w2.heap.size]? = some (.cells #[.slice c3 X.length k3, .slice c4 Y.length k4] 51)) := by
    have kA : Keeps (fun _ => False) w2 (w2.alloc (.cells #[.slice c3 X.length k3, .slice c4 Y.length k4] 51)) := (Keeps.refl _ _).alloc _
    have kk : Keeps G (w1.alloc (.cells #[.slice c1 X.length k1, .slice c2 Y.length k2] 51)) (w2.alloc (.cells #[.slice c3 X.length k3, .slice c4 Y.length k4] 51)) := kb.trans (kA.mono (fun _ e => e.elim))
    have far : ∀ y, w.heap.size ≤ y → ¬ G y := fun y hy e => by have := HP0.out.q.b.gl y e; omega
    exact ⟨(H1.out.1.bout b2' kb).still kA, owK H1.out.2.1 kk (fun g hg e => far g (by have := (HD1.out.2.1 g hg).1; omega) e), owK H1.out.2.2.1 kk (fun g hg e => far g (by have := (HD1.out.2.2 g hg).1; omega) e), H1.out.2.2.2.1.trans kk, (kk.block _ (by rw [H1.out.2.2.2.2.2]; omega) (fun e => far _ (by omega) e)).trans H1.out.2.2.2.2.1, szAl _ _, owK o3 kA (fun _ _ e => e), owK o4 kA (fun _ _ e => e), heap_alloc_last _ _ _ rfl⟩
  have HD2 : Hid (∀ x, (Value.slice c3 X.length k3).ownBlock = some x → (Value.slice c4 Y.length k4).ownBlock ≠ some x) := d2
  clear o3 o4 d2 b2' kb cs1 H1
  have cs3 := (HS.out _ H2.out.1).2.1
  go_wp2_with fail
  refine (routX _ R HP0.out.ok.hR a.2 H2.out.1.q.r.o H2.out.1.q.r.cw (by rw [HP0.out.ok.w2]; have := HP0.out.ok.w4; omega) X Y HX.out.2.2.1 HX.out.2.2.2).mono ?_
  rintro e w3 ⟨c5, k5, c6, k6, rfl, o5, o6, kr⟩
  rw [H2.out.2.2.2.2.2.1] at o5 o6
  have z3 : w2.heap.size + 1 ≤ w3.heap.size := by rw [← H2.out.2.2.2.2.2.1]; exact kr.size
  have H3 : Hid ((∀ W, Keeps (fun x => w.heap.size < x ∧ x < w1.heap.size) (w3.alloc (.cells #[.slice c5 X.length k5, .slice c6 Y.length k6] 51)) W → (PSt W G H P Q B bb b1 b2 tv R r1 r2 hb qb rb sb sd a0 a ts wd c nw ∧ Keeps (U4 G H P Q) w W) ∧ W.heap[w1.heap.size]? = some (.cells #[.slice c1 X.length k1, .slice c2 Y.length k2] 51) ∧ W.heap[w2.heap.size]? = some (.cells #[.slice c3 X.length k3, .slice c4 Y.length k4] 51) ∧ W.heap[w3.heap.size]? = some (.cells #[.slice c5 X.length k5, .slice c6 Y.length k6] 51) ∧ (OwW W (w1.heap.size + 1) (.slice c3 X.length k3) X ∧ OwW W (w1.heap.size + 1) (.slice c4 Y.length k4) Y) ∧ (OwW W (w2.heap.size + 1) (.slice c5 X.length k5) X ∧ OwW W (w2.heap.size + 1) (.slice c6 Y.length k6) Y)) ∧ OwW (w3.alloc (.cells #[.slice c5 X.length k5, .slice c6 Y.length k6] 51)) 0 (.slice c1 X.length k1) X ∧ OwW (w3.alloc (.cells #[.slice c5 X.length k5, .slice c6 Y.length k6] 51)) 0 (.slice c2 Y.length k2) Y ∧ (w3.alloc (.cells #[.slice c5 X.length k5, .slice c6 Y.length k6] 51)).heap.size = w3.heap.size + 1) := by
    have kA : Keeps (fun _ => False) w3 (w3.alloc (.cells #[.slice c5 X.length k5, .slice c6 Y.length k6] 51)) := (Keeps.refl _ _).alloc _
    have sA : (w3.alloc (.cells #[.slice c5 X.length k5, .slice c6 Y.length k6] 51)).heap.size = w3.heap.size + 1 := szAl _ _
    have kk : Keeps (fun _ => False) (w2.alloc (.cells #[.slice c3 X.length k3, .slice c4 Y.length k4] 51)) (w3.alloc (.cells #[.slice c5 X.length k5, .slice c6 Y.length k6] 51)) := kr.trans kA
    have e3 : (w3.alloc (.cells #[.slice c5 X.length k5, .slice c6 Y.length k6] 51)).heap[w3.heap.size]? = some (.cells #[.slice c5 X.length k5, .slice c6 Y.length k6] 51) := heap_alloc_last _ _ _ rfl
    refine ⟨fun W k => ?_, owK (H2.out.2.1.down (Nat.zero_le _)) kk (fun _ _ e => e), owK (H2.out.2.2.1.down (Nat.zero_le _)) kk (fun _ _ e => e), sA⟩
    have far : ∀ (n : Nat) (v : Value) (L : List Int), OwW (w3.alloc (.cells #[.slice c5 X.length k5, .slice c6 Y.length k6] 51)) n v L → w1.heap.size ≤ n → OwW W n v L := fun n v L h hn => owK h k (fun g hg e => by have := (World.ownsRow.lt h g hg).1; omega)
    have kW : Keeps (fun x => w.heap.size < x ∧ x < w1.heap.size) (w2.alloc (.cells #[.slice c3 X.length k3, .slice c4 Y.length k4] 51)) W := (kk.mono (fun _ e => e.elim)).trans k
    refine ⟨⟨H2.out.1.keeps kW (fun y e => ⟨fun h => ?_, fun h => ?_⟩), ?_⟩, (kW.block _ (by rw [H2.out.2.2.2.2.2.1]; omega) (fun e => by omega)).trans H2.out.2.2.2.2.1, (kW.block _ (by rw [H2.out.2.2.2.2.2.1]; omega) (fun e => by omega)).trans H2.out.2.2.2.2.2.2.2.2, (k.block _ (by rw [sA]; omega) (fun e => by omega)).trans e3, ⟨far _ _ _ (owK H2.out.2.2.2.2.2.2.1 kk (fun _ _ e => e)) (by omega), far _ _ _ (owK H2.out.2.2.2.2.2.2.2.1 kk (fun _ _ e => e)) (by omega)⟩, far _ _ _ (owK o5 kA (fun _ _ e => e)) (by omega), far _ _ _ (owK o6 kA (fun _ _ e => e)) (by omega)⟩
    · have := HP0.out.q.lt y h
      omega
    · have := (Array.getElem?_eq_some_iff.1 HP0.out.bs).1
      omega
    · have kU : Keeps (fun x => U4 G H P Q x ∨ w.heap.size ≤ x) w W := ((HK0.out.mono (fun _ e => e.elim)).trans (H2.out.2.2.2.1.mono (fun y e => .inl (.inl e)))).trans (kW.mono (fun y e => .inr (by omega)))
      exact kU.thin
  clear o5 o6 kr cs3 H2
  have HC : Hid (∀ W, Keeps (fun x => w.heap.size < x ∧ x < w1.heap.size) (w3.alloc (.cells #[.slice c5 X.length k5, .slice c6 Y.length k6] 51)) W → (W.cell? ⟨w1.heap.size, 0, none⟩ = some (.slice c1 X.length k1) ∧ W.cell? ⟨w1.heap.size, 1, none⟩ = some (.slice c2 Y.length k2)) ∧ (W.cell? ⟨w2.heap.size, 0, none⟩ = some (.slice c3 X.length k3) ∧ W.cell? ⟨w2.heap.size, 1, none⟩ = some (.slice c4 Y.length k4)) ∧ (W.cell? ⟨w3.heap.size, 0, none⟩ = some (.slice c5 X.length k5) ∧ W.cell? ⟨w3.heap.size, 1, none⟩ = some (.slice c6 Y.length k6)) ∧ W.cell? ⟨sd, 3, none⟩ = some (.pointer (some ⟨R.bk, 0, none⟩)) ∧ W.cell? ⟨R.bk, 2, none⟩ = some (.pointer (some ⟨r1, 0, none⟩))) := fun W k => by
    have h := H3.out.1 W k
    exact ⟨⟨(cell?_heap h.2.1 0).trans rfl, (cell?_heap h.2.1 1).trans rfl⟩, ⟨(cell?_heap h.2.2.1 0).trans rfl, (cell?_heap h.2.2.1 1).trans rfl⟩, ⟨(cell?_heap h.2.2.2.1 0).trans rfl, (cell?_heap h.2.2.2.1 1).trans rfl⟩, (HS.out W h.1.1).2⟩
  obtain ⟨⟨q1, q2⟩, ⟨q3, q4⟩, ⟨q5, q6⟩, q7, q8⟩ := HC.out (w3.alloc (.cells #[.slice c5 X.length k5, .slice c6 Y.length k6] 51)) (Keeps.refl _ _)
  obtain ⟨W3, hW3⟩ : ∃ W3, W3 = (w3.alloc (.cells #[.slice c5 X.length k5, .slice c6 Y.length k6] 51)) := ⟨_, rfl⟩
  have HW3 : Hid (W3 = (w3.alloc (.cells #[.slice c5 X.length k5, .slice c6 Y.length k6] 51))) := hW3
  have KW : Hid (∀ W, Keeps (fun _ => False) (w3.alloc (.cells #[.slice c5 X.length k5, .slice c6 Y.length k6] 51)) W → Keeps (fun x => w.heap.size < x ∧ x < w1.heap.size) (w3.alloc (.cells #[.slice c5 X.length k5, .slice c6 Y.length k6] 51)) W) := fun W k => k.mono (fun _ e => e.elim)
  clear hW3
  go_wp2_with fail
  refine (sameO _ _ (Nat.le_refl _) c1 k1 c5 k5 X c2 k2 c6 k6 Y H3.out.2.1.in (H3.out.1 _ (Keeps.refl _ _)).2.2.2.2.2.1.in (by omega) H3.out.2.2.1.in (H3.out.1 _ (Keeps.refl _ _)).2.2.2.2.2.2.in (by omega)).mono ?_
  rintro e w4 ⟨rfl, k4'⟩
  have H4 : Hid (Keeps (fun _ => False) (w3.alloc (.cells #[.slice c5 X.length k5, .slice c6 Y.length k6] 51)) w4) := k4'
  clear k4' q1 q2 q3 q4 q5 q6 q7 q8
  obtain ⟨⟨q1, q2⟩, ⟨q3, q4⟩, ⟨q5, q6⟩, q7, q8⟩ := HC.out w4 (KW.out w4 H4.out)
  go_wp2_with fail
  have h4 := H3.out.1 w4 (KW.out w4 H4.out)
  refine (sameO w4 _ (Nat.le_refl _) c3 k3 c5 k5 X c4 k4 c6 k6 Y h4.2.2.2.2.1.1.in h4.2.2.2.2.2.1.in (by omega) h4.2.2.2.2.1.2.in h4.2.2.2.2.2.2.in (by omega)).mono ?_
  rintro e w5 ⟨rfl, k5'⟩
  have H5 : Hid (Keeps (fun _ => False) (w3.alloc (.cells #[.slice c5 X.length k5, .slice c6 Y.length k6] 51)) w5) := H4.out.trans k5'
  clear k5' h4 q1 q2 q3 q4 q5 q6 q7 q8 H4
  obtain ⟨⟨q1, q2⟩, ⟨q3, q4⟩, ⟨q5, q6⟩, q7, q8⟩ := HC.out w5 (KW.out w5 H5.out)
  go_wp2_with fail
  obtain ⟨F6, uv, uev, uen, n6, l6⟩ := (H3.out.1 w5 (KW.out w5 H5.out)).1.1.q.r.m
  refine (ridle_any n6).mono ?_
  rintro e w6 ⟨rfl, hw6⟩
  rw [show idleP (a0, a.2).1 = idl from HID.out.symm]
  have H6 : Hid (Keeps (fun _ => False) (w3.alloc (.cells #[.slice c5 X.length k5, .slice c6 Y.length k6] 51)) w6) := by rw [hw6]; exact H5.out
  clear n6 l6 hw6 q1 q2 q3 q4 q5 q6 q7 q8 H5
  obtain ⟨⟨q1, q2⟩, ⟨q3, q4⟩, ⟨q5, q6⟩, q7, q8⟩ := HC.out w6 (KW.out w6 H6.out)
  go_wp2_with fail
  refine (worded_any w6 _ 200 X (owK H3.out.2.1 H6.out (fun _ _ e => e)) (by omega)).mono ?_
  rintro e w7 ⟨rfl, k7⟩
  have H7 : Hid (Keeps (fun x => w.heap.size < x ∧ x < w1.heap.size) (w3.alloc (.cells #[.slice c5 X.length k5, .slice c6 Y.length k6] 51)) w7 ∧ OwW w7 0 (.slice c2 Y.length k2) Y) := ⟨(KW.out w6 H6.out).trans (k7.mono HD1.out.2.1), owK (owK H3.out.2.2.1 H6.out (fun _ _ e => e)) k7 (fun g hg e => HD1.out.1 g e hg)⟩
  clear k7 q1 q2 q3 q4 q5 q6 q7 q8 H6
  obtain ⟨⟨q1, q2⟩, ⟨q3, q4⟩, ⟨q5, q6⟩, q7, q8⟩ := HC.out w7 H7.out.1
  go_wp2_with fail
  refine (worded_any w7 _ 300 Y H7.out.2 (by omega)).mono ?_
  rintro e w8 ⟨rfl, k8⟩
  have H8 : Hid (Keeps (fun x => w.heap.size < x ∧ x < w1.heap.size) (w3.alloc (.cells #[.slice c5 X.length k5, .slice c6 Y.length k6] 51)) w8) := H7.out.1.trans (k8.mono HD1.out.2.2)
  clear k8 q1 q2 q3 q4 q5 q6 q7 q8 H7
  obtain ⟨⟨q1, q2⟩, ⟨q3, q4⟩, ⟨q5, q6⟩, q7, q8⟩ := HC.out w8 H8.out
  go_wp2_with fail
  have h8 := H3.out.1 w8 H8.out
  refine (sameO w8 _ (Nat.le_refl _) c3 k3 c5 k5 X c4 k4 c6 k6 Y h8.2.2.2.2.1.1.in h8.2.2.2.2.2.1.in (by omega) h8.2.2.2.2.1.2.in h8.2.2.2.2.2.2.in (by omega)).mono ?_
  rintro e w9 ⟨rfl, k9⟩
  have H9 : Hid (Keeps (fun x => w.heap.size < x ∧ x < w1.heap.size) (w3.alloc (.cells #[.slice c5 X.length k5, .slice c6 Y.length k6] 51)) w9) := H8.out.trans (k9.mono (fun _ e => e.elim))
  clear k9 h8 q1 q2 q3 q4 q5 q6 q7 q8 H8
  obtain ⟨⟨q1, q2⟩, ⟨q3, q4⟩, ⟨q5, q6⟩, q7, q8⟩ := HC.out w9 H9.out
  go_wp2_with fail
  have h9 := H3.out.1 w9 H9.out
  have kA : Keeps (fun _ => False) w9 (w9.alloc (.cells #[.slice c3 X.length k3, .slice c4 Y.length k4] 51)) := (Keeps.refl _ _).alloc _
  refine (apart_one (w9.alloc (.cells #[.slice c3 X.length k3, .slice c4 Y.length k4] 51)) w9.heap.size c3 c4 k3 k4 X.length Y.length X Y rfl rfl (heap_alloc_last _ _ _ rfl) (owK (h9.2.2.2.2.1.1.down (Nat.zero_le _)) kA (fun _ _ e => e)) (owK (h9.2.2.2.2.1.2.down (Nat.zero_le _)) kA (fun _ _ e => e)) HD2.out (fun e => by have := (World.ownsRow.lt h9.2.2.2.2.1.1 _ e).2; omega) (fun e => by have := (World.ownsRow.lt h9.2.2.2.2.1.2 _ e).2; omega) (by omega) (by omega)).mono ?_
  rintro e w10 ⟨rfl, k10⟩
  have HZ : Hid (MvP w G H P Q B bb b1 b2 tv R r1 r2 hb qb rb sb sd a0 ts wd c nw w10) := by
    have kk : Keeps (fun y => w.heap.size ≤ y) w9 w10 := (kA.mono (fun _ e => e.elim)).trans (k10.mono (fun y e => by
      rcases e with e | e
      · have := (World.ownsRow.lt h9.2.2.2.2.1.1 _ e).1; omega
      · have := (World.ownsRow.lt h9.2.2.2.2.1.2 _ e).1; omega))
    have p9 := h9.1.1.keeps kk (fun y e => ⟨fun h => by have := HP0.out.q.lt y h; omega, fun h => by have := (Array.getElem?_eq_some_iff.1 HP0.out.bs).1; omega⟩)
    have kU : Keeps (fun x => U4 G H P Q x ∨ w.heap.size ≤ x) w w10 := (h9.1.2.mono (fun _ e => .inl e)).trans (kk.mono (fun _ e => .inr e))
    exact ⟨P, Q, a, ⟨p9.ok, p9.q, p9.bs, p9.ns, p9.iw.up (by omega), p9.nq⟩, fun y hy => .inl hy, fun y hy => .inl hy, kU.thin⟩
  clear k10 kA h9 q1 q2 q3 q4 q5 q6 q7 q8 H9
  go_wp2
  go_ret
  exact ⟨rfl, HZ.out⟩
end Go.Proofs.YtdpebhdjcgiboaaGreat
