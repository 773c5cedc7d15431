import Derived.Test.YtdgkocgjihdbpaaOwnI
import Derived.Test.YtdgkocgjihdbpaaCells3
namespace Go.Proofs.Ytdgkocgjihdbpaa
open Go.ChangeShapes Go.WideShapes Go.ChangeAt Go.RowKit
set_option linter.unusedVariables false
set_option maxRecDepth 100000
set_option maxHeartbeats 3200000
theorem num_any (x : Int) (w : World) : Calls Try.prog 12 #[.int .i64 x] w fun e w' => e = .returned (.int .i64 x) ∧ w' = w := by
  go_enter Try.func12, Try.ntmps12
  go_wp2
  go_ret
  exact ⟨rfl, rfl⟩
theorem shaped_any (n wd : Int) (w : World) : Calls Try.prog 10 #[.int .i64 n, .int .i64 wd] w fun e w' => e = .returned (.bool (decide (1 ≤ n ∧ n ≤ 4096 ∧ 1 ≤ wd ∧ wd ≤ 16))) ∧ w' = w := by
  by_cases h1 : 1 ≤ n
  · by_cases h2 : n ≤ 4096
    · by_cases h3 : 1 ≤ wd
      · by_cases h4 : wd ≤ 16
        · rw [decide_eq_true ⟨h1, h2, h3, h4⟩]
          go_enter Try.func10, Try.ntmps10
          go_wp2
          go_ret
          exact ⟨rfl, rfl⟩
        · rw [decide_eq_false (fun h => h4 h.2.2.2)]
          go_enter Try.func10, Try.ntmps10
          go_wp2
          go_ret
          exact ⟨rfl, rfl⟩
      · rw [decide_eq_false (fun h => h3 h.2.2.1)]
        go_enter Try.func10, Try.ntmps10
        go_wp2
        go_ret
        exact ⟨rfl, rfl⟩
    · rw [decide_eq_false (fun h => h2 h.2.1)]
      go_enter Try.func10, Try.ntmps10
      go_wp2
      go_ret
      exact ⟨rfl, rfl⟩
  · rw [decide_eq_false (fun h => h1 h.1)]
    go_enter Try.func10, Try.ntmps10
    go_wp2
    go_ret
    exact ⟨rfl, rfl⟩
theorem fifo_refused (n : Int) (v : Value) (w : World) (h : ¬ (1 ≤ n ∧ n ≤ 4096)) : Calls Try.prog 4 #[.int .i64 n, v] w fun e w' => e = .returned (.bool true) ∧ Below w.heap.size w w' := by
  go_enter Try.func4, Try.ntmps4
  go_wp2_with fail
  refine (shaped_any n 1 w).mono ?_
  rintro e w' ⟨rfl, rfl⟩
  rw [decide_eq_false (fun k => h ⟨k.1, k.2.1⟩)]
  go_wp2_with fail
  refine (new_refused n 1 w' (fun k => h ⟨k.1, k.2.1⟩)).mono ?_
  rintro e w' ⟨rfl, rfl⟩
  go_wp2_with fail
  refine (num_any _ _).mono ?_
  rintro e w' ⟨rfl, rfl⟩
  go_wp2
  go_ret
  exact ⟨rfl, Below.refl _ _⟩
theorem infoBl : (Try.prog.info? 4).map (fun i => (i.zero, i.size, i.bytes)) = some (some (.bool false), 1, 1) := by kernel_rfl
/-- What holds all along: the arena's blocks are new, nothing old is changed. -/
structure FreS (w : World) (L : Lay) (n front count : Nat) (ring : Nat → Int) (use : Nat → Bool) (wr : World) : Prop where
  new : ∀ g, L.has g → w.heap.size ≤ g
  q : FQ wr L n front count ring use
  old : Below w.heap.size w wr
theorem FreS.step {w wr w' : World} {L : Lay} {n front count front' count' : Nat} {ring ring' : Nat → Int} {use use' : Nat → Bool} (h : FreS w L n front count ring use wr) (hq : FQ w' L n front' count' ring' use') (hk : Keeps L.has wr w') : FreS w L n front' count' ring' use' w' :=
  ⟨h.new, hq, h.old.trans (hk.below h.old.size (fun k hk e => by have := h.new k e; omega))⟩
theorem FQ.lt {w : World} {L : Lay} {n front count : Nat} {ring : Nat → Int} {use : Nat → Bool} (h : FQ w L n front count ring use) : ∀ g, L.has g → g < w.heap.size := by
  obtain ⟨S, h, h1⟩ := h
  intro g hg
  rcases hg with rfl | rfl | rfl | rfl <;> first | exact h.lb | exact h.ls | exact h.lu | exact h.lq
theorem nodup_len : ∀ (n : Nat) (F : List Int), F.Nodup → (∀ x ∈ F, 1 ≤ x ∧ x ≤ (n : Int)) → F.length ≤ n
  | 0, F, _, hr => by
    cases F with
    | nil => simp
    | cons a l => have := hr a (by simp); omega
  | n + 1, F, hd, hr => by
    have ih := nodup_len n (F.erase ((n : Int) + 1)) (hd.erase _) (fun x hx => by
      have h1 := (List.Nodup.mem_erase_iff hd).1 hx
      have h2 := hr x h1.2
      have h3 : x ≠ (n : Int) + 1 := h1.1
      push_cast at h2
      omega)
    have := List.length_erase (a := (n : Int) + 1) (l := F)
    split at this <;> omega
/-- The second loop: F is what was freed. -/
structure G2 (w : World) (L : Lay) (n gG B : Nat) (freed : Value) (F : List Int) (wr : World) : Prop where
  fs : ∃ ring use, FreS w L n 0 F.length ring use wr ∧ (∀ q (h : q < F.length), ring q = F[q]) ∧ (∀ k : Nat, k < n → ((k : Int) + 1) ∉ F → use k = true)
  own : ownI wr B freed F
  nd : F.Nodup
  rng : ∀ x ∈ F, 1 ≤ x ∧ x ≤ (n : Int)
  gone : ∀ s : Nat, s ≤ n → wr.cell? ⟨gG, s, none⟩ = some (.bool (decide ((s : Int) ∈ F)))
  gfz : ∀ s, wr.frozen? ⟨gG, s, none⟩ = false
  gB : gG < B
  gL : ¬ L.has gG
  LB : ∀ g, L.has g → g < B
  wB : B ≤ wr.heap.size
  wG : w.heap.size ≤ gG
theorem G2.start {w wr : World} {L : Lay} {n : Nat} {ring : Nat → Int} {use : Nat → Bool} (h : FreS w L n 0 0 ring use wr) (hu : ∀ k, k < n → use k = true) : G2 w L n wr.heap.size (wr.heap.size + 1) (.slice none 0 0) [] (wr.alloc (.cells (madeCells #[.bool false] (n + 1)) 4)) := by
  have hl := h.q.lt
  have hg := heap_alloc_new wr (.cells (madeCells #[.bool false] (n + 1)) 4)
  refine ⟨⟨ring, use, ⟨h.new, h.q.keeps ((Keeps.refl (fun _ => False) wr).alloc _) (fun _ _ e => e), h.old.trans (((Below.refl w.heap.size wr).alloc h.old.size _))⟩, fun q hq => by simp at hq, fun k hk _ => hu k hk⟩, ownI_nil _ _, by simp, by simp, fun s hs => ?_, fun s => frozen?_heap hg s, by omega, fun e => by have := hl _ e; omega, fun g e => by have := hl g e; omega, by simp, h.old.size⟩
  rw [cell?_heap hg, getElem?_made _ _ _ (by omega)]
  simp [Nat.mod_one]
theorem G2.lt {w wr : World} {L : Lay} {n gG B : Nat} {freed : Value} {F : List Int} (h : G2 w L n gG B freed F wr) {k : Nat} (hk : k < n) (hn : ((k : Int) + 1) ∉ F) : F.length < n ∧ (F ++ [(k : Int) + 1]).Nodup ∧ (∀ x ∈ F ++ [(k : Int) + 1], 1 ≤ x ∧ x ≤ (n : Int)) := by
  have h1 : (F ++ [(k : Int) + 1]).Nodup := by
    rw [List.nodup_append]
    refine ⟨h.nd, by simp, fun a ha b hb => ?_⟩
    simp at hb
    rintro rfl
    exact hn (hb ▸ ha)
  have h2 : ∀ x ∈ F ++ [(k : Int) + 1], 1 ≤ x ∧ x ≤ (n : Int) := by
    intro x hx
    rcases List.mem_append.1 hx with hx | hx
    · exact h.rng x hx
    · simp at hx; omega
  have := nodup_len n _ h1 h2
  simp at this
  exact ⟨by omega, h1, h2⟩
theorem G2.own1 {w wr : World} {L : Lay} {n gG B : Nat} {freed : Value} {F : List Int} (h : G2 w L n gG B freed F wr) (j : Nat) (u : Value) : ownI (wr.setCell ⟨gG, j, none⟩ u) B freed F :=
  h.own.keeps ((Keeps.refl (fun k => k = gG) wr).setCell (p := ⟨gG, j, none⟩) rfl u) (fun g hg e => by have := h.gB; omega)
/-- Behind the append. -/
structure G3 (w : World) (L : Lay) (n gG B k : Nat) (freed : Value) (F : List Int) (w2 : World) : Prop where
  fs : ∃ ring use, FreS w L n 0 F.length ring use w2 ∧ (∀ q (h : q < F.length), ring q = F[q]) ∧ (∀ k : Nat, k < n → ((k : Int) + 1) ∉ F → use k = true)
  own : ownI w2 B freed (F ++ [(k : Int) + 1])
  gone : ∀ s : Nat, s ≤ n → w2.cell? ⟨gG, s, none⟩ = some (.bool (decide ((s : Int) ∈ F ++ [(k : Int) + 1])))
  gfz : ∀ s, w2.frozen? ⟨gG, s, none⟩ = false
  gB : gG < B
  gL : ¬ L.has gG
  LB : ∀ g, L.has g → g < B
  wB : B ≤ w2.heap.size
  wG : w.heap.size ≤ gG
theorem G2.mid {w wr w2 : World} {L : Lay} {n gG B k : Nat} {freed v' : Value} {F : List Int} (h : G2 w L n gG B freed F wr) (hk : k < n) (ho : ownI w2 B v' (F ++ [(k : Int) + 1])) (hb : Below B (wr.setCell ⟨gG, k + 1, none⟩ (.bool true)) w2) : G3 w L n gG B k v' F w2 := by
  obtain ⟨ring, use, hf, hr, hu⟩ := h.fs
  have hK : Keeps (fun k => k = gG) wr (wr.setCell ⟨gG, k + 1, none⟩ (.bool true)) := (Keeps.refl (fun k => k = gG) wr).setCell (p := ⟨gG, k + 1, none⟩) rfl _
  have q1 := hf.q.keeps hK (fun g hg e => h.gL (e ▸ hg))
  refine ⟨⟨ring, use, ⟨hf.new, q1.below hb h.LB, (hf.old.setCell (p := ⟨gG, k + 1, none⟩) h.wG _).trans (hb.mono (by have := h.wG; have := h.gB; omega))⟩, hr, hu⟩, ho, fun s hs => ?_, fun s => ?_, h.gB, h.gL, h.LB, Nat.le_trans h.wB (by have := hb.size; simpa using this), h.wG⟩
  · rw [hb.cell (p := ⟨gG, s, none⟩) h.gB]
    by_cases e : s = k + 1
    · subst e
      rw [World.cell?_setCell_same _ _ _ (h.gone (k + 1) (by omega))]
      simp
    · rw [World.cell?_setCell_other _ _ _ _ (fun e' => e (congrArg Addr.off e').symm), h.gone s hs]
      have : ¬ ((s : Int) = (k : Int) + 1) := by omega
      simp [this]
  · rw [hb.frozen (p := ⟨gG, s, none⟩) h.gB]
    simpa using h.gfz s
theorem G3.free {w w2 : World} {L : Lay} {n gG B k : Nat} {freed : Value} {F : List Int} (h : G3 w L n gG B k freed F w2) (hk : k < n) (hn : ((k : Int) + 1) ∉ F) (hl : F.length < n) (hnd : (F ++ [(k : Int) + 1]).Nodup) (hrg : ∀ x ∈ F ++ [(k : Int) + 1], 1 ≤ x ∧ x ≤ (n : Int)) :
    Calls Try.prog 14 #[.pointer (some ⟨L.b, 0, none⟩), .int .i64 ((k : Int) + 1)] w2 fun e w' => e = .returned (.int .i64 0) ∧ Hid (G2 w L n gG B freed (F ++ [(k : Int) + 1]) w') := by
  obtain ⟨ring, use, hf, hr, hu⟩ := h.fs
  refine (fq_free L w2 n 0 F.length k ring use hf.q (by omega) (by omega) hk (hu k hk hn)).mono ?_
  rintro e w' ⟨rfl, q', k'⟩
  refine ⟨rfl, ⟨⟨upd ring ((0 + F.length) % n) ((k : Int) + 1), upd use k false, ?_, fun q hq => ?_, fun j hj hjn => ?_⟩, h.own.keeps k' (fun g hg e => by have := h.LB g e; omega), hnd, hrg, fun s hs => (k'.cell (p := ⟨gG, s, none⟩) (Nat.lt_of_lt_of_le h.gB h.wB) h.gL).trans (h.gone s hs), fun s => (k'.frozen (p := ⟨gG, s, none⟩) (Nat.lt_of_lt_of_le h.gB h.wB) h.gL).trans (h.gfz s), h.gB, h.gL, h.LB, Nat.le_trans h.wB k'.size, h.wG⟩⟩
  · rw [List.length_append]
    exact hf.step q' k'
  · simp only [List.length_append, List.length_singleton] at hq
    rw [Nat.zero_add, Nat.mod_eq_of_lt hl]
    unfold upd
    by_cases e : q = F.length
    · subst e; simp
    · rw [if_neg e, hr q (by omega), List.getElem_append_left (by omega)]
  · have : ¬ (j = k) := fun e => hjn (by subst e; simp)
    unfold upd
    rw [if_neg this]
    exact hu j hj (fun e => hjn (by simp [e]))
theorem fifo_walk (n : Nat) (v : Value) (xs : List Int) (w : World) (h1 : 1 ≤ n) (h2 : n ≤ 4096) (hv : SeesI w w.heap.size v xs) : Calls Try.prog 4 #[.int .i64 (n : Int), v] w fun e w' => e = .returned (.bool true) ∧ Below w.heap.size w w' := by
  have HV : Hid (SeesI w w.heap.size v xs) := hv
  clear hv
  go_enter Try.func4, Try.ntmps4
  go_wp2_with fail
  refine (shaped_any n 1 w).mono ?_
  rintro e w' ⟨rfl, rfl⟩
  rw [decide_eq_true ⟨by omega, by omega, by omega, by omega⟩]
  go_wp2_with fail
  refine (fq_new n w' h1 h2).mono ?_
  rintro e w1 ⟨L, rfl, hL, hq, hb⟩
  have H1 : Hid (FreS w' L n 0 n (fun j => (j : Int) + 1) (fun _ => false) w1) := ⟨hL, hq, hb⟩
  clear hL hq hb
  go_wp2_with fail
  refine (num_any _ _).mono ?_
  rintro e w2 ⟨rfl, rfl⟩
  go_wp2_with fail
  go_loopw [9] (fun i wr => ∃ t : Nat, t ≤ n ∧ i = .int .i64 ((t : Int) + 1) ∧ ∃ use, (∀ k, k < t → use k = true) ∧ FreS w' L n (t % n) (n - t) (fun j => (j : Int) + 1) use wr) (fun i _ => n + 1 - (intOf i).toNat)
  case atStart => exact ⟨0, by omega, rfl, _, (fun k hk => by omega), by simpa using H1.out⟩
  case round =>
    obtain ⟨t, ht, rfl, use, hu, hS⟩ := hrel
    have HS : Hid ((∀ k, k < t → use k = true) ∧ FreS w' L n (t % n) (n - t) (fun j => (j : Int) + 1) use wr) := ⟨hu, hS⟩
    clear hu hS H1
    by_cases h4 : t < n
    · have hm : t % n = t := Nat.mod_eq_of_lt h4
      go_wp2_with fail
      refine (fq_alloc L wr n (t % n) (n - t) t _ use _ HS.out.2.q (Nat.mod_lt _ (by omega)) (by omega) (by omega) (by rw [hm]) h4).mono ?_
      rintro e w3 ⟨rfl, q3, k3⟩
      have H3 : Hid ((∀ k, k < t + 1 → upd use t true k = true) ∧ FreS w' L n ((t + 1) % n) (n - (t + 1)) (fun j => (j : Int) + 1) (upd use t true) w3) := by
        refine ⟨fun k hk => ?_, ?_⟩
        · unfold upd; split
          · rfl
          · exact HS.out.1 k (by omega)
        · have := HS.out.2.step q3 k3
          rw [hm, show n - t - 1 = n - (t + 1) from by omega] at this
          exact this
      clear q3 k3 HS hm
      go_wp2_with fail
      refine (num_any _ _).mono ?_
      rintro e w4 ⟨rfl, rfl⟩
      go_wp2
      go_roundw
      case rel => exact ⟨t + 1, by omega, by go_num, _, H3.out⟩
      case measure => simp [intOf]; omega
    · have e4 : t = n := by omega
      subst e4
      have H4 : Hid ((∀ k, k < t → use k = true) ∧ FreS w' L t 0 0 (fun j => (j : Int) + 1) use wr) := by
        have := HS.out
        rw [Nat.mod_self, Nat.sub_self] at this
        exact this
      have hmk := run_make_any (P := Try.prog) 41 4 _ 1 1 Try.underlying41 infoBl (t + 1) (by omega) (by omega) wr
      rw [Int.natCast_add, Int.natCast_one, Nat.mul_one] at hmk
      have HG : Hid (G2 w' L t wr.heap.size (wr.heap.size + 1) (.slice none 0 0) [] _) := G2.start H4.out.2 H4.out.1
      clear HS ht H4 h4
      generalize hgG : wr.heap.size = gG at *
      clear hgG
      obtain ⟨ao, cap, rfl, v1, v2, v3⟩ := HV.out
      have HV3 : Hid (∀ i (hi : i < xs.length), ∃ b off, ao = some ⟨b, off, none⟩ ∧ b < w'.heap.size ∧ w'.cell? ⟨b, off + i, none⟩ = some (.int .i64 xs[i])) := v3
      clear HV v3 v1
      go_wp2_with fail
      go_loopw [13, 14] (fun c i wr => ∃ (j : Nat) (F : List Int) (vf : Value), j ≤ xs.length ∧ i = .int .i64 (j : Int) ∧ vf = c ∧ G2 w' L t gG (gG + 1) vf F wr) (fun _ i _ => xs.length - (intOf i).toNat)
      case atStart => exact ⟨0, [], _, by omega, rfl, rfl, HG.out⟩
      case round =>
        obtain ⟨j, F, vf, hj, rfl, hvf, hG⟩ := hrel
        subst hvf
        have HG2 : Hid (G2 w' L t gG (gG + 1) vf F wr) := hG
        clear hG HG hmk
        by_cases h5 : j < xs.length
        · obtain ⟨b, off, rfl, hb, hx⟩ := HV3.out j h5
          have hx' := (HG2.out.fs.choose_spec.choose_spec.1.old.cell (p := ⟨b, off + j, none⟩) hb).trans hx
          generalize xs[j] = x at *
          clear hx hb
          by_cases h6 : 1 ≤ x
          · by_cases h7 : x ≤ (t : Int)
            · obtain ⟨k, hk, rfl⟩ : ∃ k : Nat, k < t ∧ x = (k : Int) + 1 := ⟨(x - 1).toNat, by omega, by omega⟩
              have hgone := HG2.out.gone (k + 1) (by omega)
              have hgfz := HG2.out.gfz (k + 1)
              rw [Int.natCast_add, Int.natCast_one] at hgone
              by_cases h8 : ((k : Int) + 1) ∈ F
              · rw [decide_eq_true h8] at hgone
                go_wp2
                go_roundw
                case rel => exact ⟨j + 1, F, vf, by omega, by go_num, rfl, HG2.out⟩
                case measure => simp [intOf]; omega
              · rw [decide_eq_false h8] at hgone
                obtain ⟨hl, hnd, hrg⟩ := HG2.out.lt hk h8
                have HA : Hid (F.length < t ∧ (F ++ [(k : Int) + 1]).Nodup ∧ ∀ x ∈ F ++ [(k : Int) + 1], 1 ≤ x ∧ x ≤ (t : Int)) := ⟨hl, hnd, hrg⟩
                have H8 : Hid (((k : Int) + 1) ∉ F) := h8
                clear hnd hrg h8
                go_wp2_with (at_builtin; refine app_intL (by rfl) _ _ (by rfl) (gG + 1) vf F ((k : Int) + 1) (HG2.out.own1 (k + 1) (.bool true)) (by rfl) wr.heap.size (by simp) (by rfl) (by omega) (by have := HG2.out.wB; simpa using this) ?_; intro v' w2 ho2 hb2; have H9 : Hid (G3 w' L t gG (gG + 1) k v' F w2) := HG2.out.mid hk ho2 hb2; clear ho2 hb2)
                refine (H9.out.free hk H8.out HA.out.1 HA.out.2.1 HA.out.2.2).mono ?_
                rintro e w5 ⟨rfl, H10⟩
                clear H9 HG2 HA H8 hgone hgfz hx'
                go_wp2_with fail
                refine (num_any _ _).mono ?_
                rintro e w6 ⟨rfl, rfl⟩
                go_wp2
                go_roundw
                case rel => exact ⟨j + 1, _, _, by omega, by go_num, rfl, H10.out⟩
                case measure => simp [intOf]; omega
            · go_wp2
              go_roundw
              case rel => exact ⟨j + 1, F, vf, by omega, by go_num, rfl, HG2.out⟩
              case measure => simp [intOf]; omega
          · go_wp2
            go_roundw
            case rel => exact ⟨j + 1, F, vf, by omega, by go_num, rfl, HG2.out⟩
            case measure => simp [intOf]; omega
        · clear HV3 v2 hj
          obtain ⟨sp, cp, rfl, hfm⟩ := HG2.out.own.form
          clear hfm
          have H5 : Hid (F.length ≤ t) := nodup_len t F HG2.out.nd HG2.out.rng
          go_wp2_with fail
          go_loopw [17] (fun i wr => ∃ (q : Nat) (ring : Nat → Int) (use : Nat → Bool), q ≤ F.length ∧ i = .int .i64 (q : Int) ∧ ownI wr (gG + 1) (.slice sp F.length cp) F ∧ FreS w' L t (q % t) (F.length - q) ring use wr ∧ (∀ q (h : q < F.length), ring q = F[q])) (fun i _ => F.length - (intOf i).toNat)
          case atStart =>
            obtain ⟨ring, use, hf, hr, hu⟩ := HG2.out.fs
            exact ⟨0, ring, use, by omega, rfl, HG2.out.own, by simpa using hf, hr⟩
          case round =>
            obtain ⟨q, ring, use, hq, rfl, hown, hfs, hrg⟩ := hrel
            have H6 : Hid (ownI wr (gG + 1) (.slice sp F.length cp) F ∧ FreS w' L t (q % t) (F.length - q) ring use wr ∧ (∀ q (h : q < F.length), ring q = F[q])) := ⟨hown, hfs, hrg⟩
            clear hown hfs hrg
            by_cases h6 : q < F.length
            · have hF5 := H5.out
              have hqt : q % t = q := Nat.mod_eq_of_lt (by omega)
              obtain ⟨k, hk, hFk⟩ : ∃ k : Nat, k < t ∧ F[q] = (k : Int) + 1 := by
                have := HG2.out.rng F[q] (List.getElem_mem _)
                exact ⟨(F[q] - 1).toNat, by omega, by omega⟩
              go_wp2_with fail
              refine (fq_alloc L wr t (q % t) (F.length - q) k ring use _ H6.out.2.1.q (Nat.mod_lt _ (by omega)) (by omega) (by omega) (by rw [hqt, H6.out.2.2 q h6, hFk]) hk).mono ?_
              rintro e w3 ⟨rfl, q3, k3⟩
              have H7 : Hid (ownI w3 (gG + 1) (.slice sp F.length cp) F ∧ FreS w' L t ((q + 1) % t) (F.length - (q + 1)) ring (upd use k true) w3 ∧ (∀ q (h : q < F.length), ring q = F[q])) := by
                refine ⟨H6.out.1.keeps k3 (fun g hg e => by have := HG2.out.LB g e; omega), ?_, H6.out.2.2⟩
                have := H6.out.2.1.step q3 k3
                rw [hqt, show F.length - q - 1 = F.length - (q + 1) from by omega] at this
                exact this
              obtain ⟨sp', cp', he, hc⟩ := H7.out.1.form
              injection he with he1 he2 he3
              subst he1
              obtain ⟨g, rfl, hc2⟩ := hc q h6
              rw [hFk] at hc2
              clear q3 k3 H6 hc hqt he2 he3 hFk
              go_wp2_with fail
              refine (num_any _ _).mono ?_
              rintro e w4 ⟨rfl, rfl⟩
              go_wp2
              go_roundw
              case rel => exact ⟨q + 1, ring, _, by omega, by go_num, H7.out⟩
              case measure => simp [intOf]; omega
            · have e6 : q = F.length := by omega
              subst e6
              have H8 : Hid (FreS w' L t (F.length % t) 0 ring use wr) := by
                have := H6.out.2.1
                rw [Nat.sub_self] at this
                exact this
              clear H6
              go_wp2_with fail
              refine (fq_full L wr t _ ring use _ H8.out.q).mono ?_
              rintro e w3 ⟨rfl, q3, k3⟩
              have H9 : Hid (FreS w' L t (F.length % t) 0 ring use w3) := H8.out.step q3 k3
              clear H8 q3 k3
              go_wp2_with fail
              refine (num_any _ _).mono ?_
              rintro e w4 ⟨rfl, rfl⟩
              go_wp2
              go_ret
              exact ⟨rfl, H9.out.old⟩
theorem fifo_law (a : Int) (v : Value) (xs : List Int) (w : World) (hv : SeesI w w.heap.size v xs) : Calls Try.prog 4 #[.int .i64 a, v] w fun e w' => e = .returned (.bool true) ∧ Below w.heap.size w w' := by
  by_cases h : 1 ≤ a ∧ a ≤ 4096
  · obtain ⟨n, rfl⟩ : ∃ n : Nat, a = (n : Int) := ⟨a.toNat, by omega⟩
    exact fifo_walk n v xs w (by omega) (by omega) hv
  · exact fifo_refused a v w h
end Go.Proofs.Ytdgkocgjihdbpaa
