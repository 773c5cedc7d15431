import Derived.Test.YtdpebhdjcgiboaaGreatSn6
namespace Go.Proofs.YtdpebhdjcgiboaaGreat
open Go.ChangeShapes Go.WideShapes Go.ChangeAt Go.RowKit Go.MuLone Go.RwLone
set_option linter.unusedVariables false
set_option maxRecDepth 100000
set_option maxHeartbeats 6400000
/-- What `laid` leaves, whatever the machines are. -/
structure Ld (w w' : World) (W : Nat) (js : List (Int × Int × Int)) (hb qb T : Nat) (M : Mc) (ln : Nat → Nat) (pl : M.σ → Nat → Nat) (a : Hp × M.σ) : Prop where
  h : Hj w' (fun y => w.heap.size ≤ y ∧ y < w'.heap.size) M hb qb a
  j : Jm M ln pl
  g : Gd M ln (tagJ js) (whoJ js W) pl W js.length T a
  s : a.1.st = 0
  e : a.1.ev = []
  l : ∀ k, ln k = if k < js.length then lenJ js k else 0
  q : a.1 = hJ (whoJ js W) (tagJ js) W js.length
  p : pl a.2 = fun _ => 0
  k : Keeps (fun _ => False) w w'
  t : T ≤ 400
theorem laidL (w : World) (C : Nat) (hC : C ≤ w.heap.size) (W : Nat) (hW1 : 1 ≤ W) (hW : W ≤ 16) (ja : Option Addr) (jc : Nat) (js : List (Int × Int × Int)) (hj : InG pkC w C (.slice ja js.length jc) js) (hK : js.length ≤ 40) (hjt : ∀ x ∈ js, -9223372036854775808 ≤ x.2.1 ∧ x.2.1 ≤ 9223372036854775807) :
    Calls Tryz.prog 9 #[.int .i64 (W : Int), .slice ja js.length jc] w fun e w' => ∃ hb qb M ln pl a, e = .returned (.tuple #[.pointer (some ⟨hb, 0, none⟩), .int .i64 (totJ (lenJ js) js.length : Int), .bool true]) ∧ Ld w w' W js hb qb (totJ (lenJ js) js.length) M ln pl a := by
  refine (laid_any w C hC W hW1 hW ja jc js hj hK hjt).mono ?_
  rintro e w1 ⟨hb, qb, J, rfl, lj⟩
  have hw : ∀ k, k < js.length → whoJ js W k < W := fun k _ => whX_lt hW1 _
  refine ⟨hb, qb, mcJ J js.length lj.j, lnJ J, plJ, _, rfl, lj.hj hw (by omega), jmJ J _ lj.j, lj.gd hw, rfl, rfl, fun k => ?_, rfl, rfl, lj.k, ?_⟩
  · split
    · rename_i h; exact lj.l k h
    · rename_i h; exact lj.z k (by omega)
  have := totJ_le (lenJ js) (fun k => by have := lnX_lt (jbA js k).2.2; unfold lenJ; omega) js.length
  omega
/-- Threads of so many steps, without memory. -/
def pcJ (ln : Nat → Nat) : Mc := { σ := Nat → Nat, ok := fun _ _ => False, F := fun _ => False, pt := fun _ => 0, N := 0, st := fun s k => upd s k (if s k < ln k then s k + 1 else s k), dn := fun s k => decide (ln k ≤ s k), far := fun h _ _ => h, lt := fun h _ => h.elim, call := fun _ _ _ _ h => h.elim }
theorem mp_jm {M : Mc} {ln : Nat → Nat} {pl : M.σ → Nat → Nat} (hj : Jm M ln pl) (ps : List (Int × Int × Int)) (b : Nat) (a : Hp × M.σ) : playP (pcJ ln) ps b (a.1, pl a.2) = ((playP M ps b a).1, (playP M ps b a).2.1, ((playP M ps b a).2.2.1, pl (playP M ps b a).2.2.2)) :=
  mp_playP (M := M) (M' := pcJ ln) pl (fun s m => by
    funext j
    show pl (M.st s m) j = upd (pl s) m _ j
    by_cases e : j = m
    · subst e; rw [upd_same]; exact hj.a s j
    · rw [upd_other _ _ e]; exact hj.o s m j e) (fun s m => hj.d s m) ps b a
/-- Two harnesses with the same jobs play alike. -/
theorem two_alike {M M' : Mc} {ln : Nat → Nat} {pl : M.σ → Nat → Nat} {pl' : M'.σ → Nat → Nat} (hj : Jm M ln pl) (hj' : Jm M' ln pl') (a : Hp × M.σ) (a' : Hp × M'.σ) (h1 : a'.1 = a.1) (h2 : pl' a'.2 = pl a.2) (ps : List (Int × Int × Int)) (b : Nat) :
    (playP M' ps b a').1 = (playP M ps b a).1 ∧ (playP M' ps b a').2.1 = (playP M ps b a).2.1 ∧ (playP M' ps b a').2.2.1 = (playP M ps b a).2.2.1 := by
  have e1 := mp_jm hj ps b a
  have e2 := mp_jm hj' ps b a'
  rw [h1, h2, e1] at e2
  injection e2 with e2 e3
  injection e3 with e3 e4
  injection e4 with e4 e5
  exact ⟨e2.symm, e3.symm, e4.symm⟩
theorem drains_walk (w : World) (ja : Option Addr) (jc : Nat) (js : List (Int × Int × Int)) (hj : InG pkC w w.heap.size (.slice ja js.length jc) js) (hjt : ∀ x ∈ js, -9223372036854775808 ≤ x.2.1 ∧ x.2.1 ≤ 9223372036854775807) (hjl : js.length ≤ 1048576) (x : Int) (s : ByteArray) (hs : s.size ≤ 1048576) :
    Calls Tryz.prog 4 #[.int .i64 x, .slice ja js.length jc, .string s] w fun e w' => e = .returned (.bool true) ∧ Below w.heap.size w w' := by
  by_cases hx : 1 ≤ x ∧ x ≤ 16 ∧ js.length ≤ 40
  · obtain ⟨x1, x2, hK⟩ := hx
    obtain ⟨W, rfl⟩ : ∃ W : Nat, x = (W : Int) := ⟨x.toNat, by omega⟩
    have hW1 : 1 ≤ W := by omega
    have hW : W ≤ 16 := by omega
    have n1 : ¬ (W : Int) < 1 := by omega
    have n2 : ¬ (W : Int) > 16 := by omega
    have HLA : Hid (∀ _ : Unit, _) := fun _ => laidL w w.heap.size (Nat.le_refl _) W hW1 hW ja jc js hj hK hjt
    have HJ : Hid (∀ X, Keeps (fun y => w.heap.size ≤ y) w X → InG pkC X w.heap.size (.slice ja js.length jc) js) := fun X k => hj.later (k.below (Nat.le_refl _) (fun y hy e => by omega))
    have HD : Hid (∀ W, Calls Tryz.prog 10 #[.string s] W fun e w' => ∃ v, e = .returned v ∧ ownP w' W.heap.size v (dL s.data.toList) ∧ Below W.heap.size W w') := fun W => decode_any s W (by omega)
    have HLV : Hid ((dL s.data.toList).length ≤ 1048576 ∧ ∀ p ∈ dL s.data.toList, p.2.2 ≤ 300) := ⟨by have := (dL_len _ s.data.toList (Nat.le_refl _)).1; rw [len_list] at this; omega, dL_small _ _ (Nat.le_refl _)⟩
    generalize dL s.data.toList = vs at *
    obtain ⟨K, hKK⟩ : ∃ K, js.length = K := ⟨_, rfl⟩
    have HL : Hid (js.length = K) := hKK
    have n3 : ¬ (K : Int) > 40 := by omega
    have hK40 : K ≤ 40 := by omega
    rw [hKK]
    rw [hKK] at HLA HJ
    clear hj hjt hjl hs hKK hK
    go_enter Tryz.func4, Tryz.ntmps4
    go_wp2_with fail
    refine (HLA.out ()).mono ?_
    rintro e w1 ⟨hb, qb, M, ln, pl, a, rfl, ld⟩
    obtain ⟨T, hT⟩ : ∃ T, totJ (lenJ js) K = T := ⟨_, rfl⟩
    rw [hT] at ld ⊢
    clear hT HLA
    have hT4 := ld.t
    have HLD : Hid (Ld w w1 W js hb qb T M ln pl a) := ld
    have HDR : Hid (∀ _ : Unit, _) := fun _ => ld.g.drains ld.j (by omega) ld.s vs
    clear ld
    go_wp2_with fail
    refine (HD.out w1).mono ?_
    rintro e w2 ⟨v, rfl, ho, hb2⟩
    have k2 : Keeps (fun _ => False) w1 w2 := Below.keeps hb2 _
    have H2 : Hid (Hj w2 (fun y => w.heap.size ≤ y ∧ y < w1.heap.size) M hb qb a ∧ PkR w2 (fun y => w.heap.size ≤ y ∧ y < w1.heap.size) v vs ∧ Keeps (fun _ => False) w w2) :=
      ⟨HLD.out.h.keeps k2 (fun _ e => e.elim), PkR.of ho (fun y hy => hy.2) (by have := HLV.out.1; omega) HLV.out.2, HLD.out.k.trans k2⟩
    have HZ2 : Hid (w.heap.size ≤ w2.heap.size) := (HLD.out.k.trans k2).size
    clear ho hb2 k2 HD HLV
    go_wp2_with fail
    refine (hj_play w2 _ M hb qb a H2.out.1 T (by omega) v vs H2.out.2.1).mono ?_
    rintro e w3 ⟨rfl, h3, k3⟩
    obtain ⟨g1, g2, g3, g4, g5, g6, g7, g8⟩ := HDR.out ()
    have hr1 : retP (playP M vs T a).1 (playP M vs T a).2.1 T = .tuple #[.int .i64 ((T : Int) - ((playP M vs T a).2.1 : Int)), .int .i64 0] := by unfold retP; rw [if_pos g1]
    rw [hr1]
    clear hr1 g1
    generalize playP M vs T a = r1 at *
    obtain ⟨r10, L, r12⟩ := r1
    dsimp only at g2 g3 g4 g5 g6 g7 g8 h3 k3 ⊢
    have H3 : Hid (Hj w3 (fun y => (w.heap.size ≤ y ∧ y < w1.heap.size) ∨ (w2.heap.size ≤ y ∧ y < w3.heap.size)) M hb qb r12 ∧ Keeps (fun y => w.heap.size ≤ y) w w3) := ⟨h3, (H2.out.2.2.mono (fun _ e => e.elim)).trans (k3.mono (fun y e => e.1))⟩
    have HG : Hid (_ ∧ _ ∧ _ ∧ _ ∧ _) := ⟨g3, g5, g6, g7, g8⟩
    have hL1 : wrap64 ((T : Int) - ((T : Int) - (L : Int))) = (L : Int) := by unfold wrap64; omega
    have hL2 : IntKind.i64.wrap ((T : Int) - ((T : Int) - (L : Int))) = (L : Int) := by rw [IntKind.wrap_i64]; omega
    have hL3 : wrap64 ((T : Int) - (L : Int) + (L : Int)) = (T : Int) := by unfold wrap64; omega
    have hL4 : IntKind.i64.wrap ((T : Int) - (L : Int) + (L : Int)) = (T : Int) := by rw [IntKind.wrap_i64]; omega
    clear h3 k3 g3 g4 g5 g6 g7 g8 H2 HDR
    go_wp2_with fail
    refine (hj_drain w3 _ M hb qb r12 H3.out.1 L (by omega)).mono ?_
    rintro e w4 ⟨rfl, h4, k4⟩
    obtain ⟨g3, g5, g6, g7, g8⟩ := HG.out
    have hr1 : retP (playP M [(6, 0, 0)] L r12).1 (playP M [(6, 0, 0)] L r12).2.1 L = .tuple #[.int .i64 (L : Int), .int .i64 0] := by unfold retP; rw [if_pos g5, g6]; simp
    rw [hr1]
    clear hr1 HG g3 g5 g6
    generalize (playP M [(6, 0, 0)] L r12).2.2 = r2 at *
    have gf := g7.fin g8
    have H4 : Hid (∃ U, Hj w4 U M hb qb r2 ∧ (∀ y, U y → w.heap.size ≤ y) ∧ Keeps (fun y => w.heap.size ≤ y) w w4) := by
      have z2 := HZ2.out
      have z3 := H3.out.2.size
      refine ⟨_, h4, fun y hy => ?_, H3.out.2.trans (k4.mono (fun y e => ?_))⟩
      · rcases hy with (hy | hy) | hy <;> omega
      · rcases e with e | e <;> omega
    have HF : Hid (r2.1.st = (T : Int) ∧ r2.1.ev.length = 2 * js.length ∧ r2.1.en.length = K ∧ idleP r2.1 = true ∧ (∀ t : Nat, t < W → pendP r2.1 (t : Int) = 0) ∧ Rise r2.1.ev ∧ (∀ e ∈ r2.1.ev, 0 ≤ e.2.1 ∧ e.2.1 < (W : Int)) ∧ (∀ e ∈ r2.1.ev, 0 ≤ e.2.2.2 ∧ e.2.2.2 ≤ 1000000) ∧ ∀ t, t < W → Pairs (lenJ js) (tagJ js) (t : Int) (jbs (whoJ js W) js.length t) (r2.1.ev.filter (isW t))) := by
      refine ⟨gf.1, gf.2.1, by rw [gf.2.2.1]; exact HL.out, g8, fun t ht => ?_, g7.r, g7.e, fun e he => ?_, fun t ht => ?_⟩
      · unfold pendP
        rw [if_neg (by omega), Int.toNat_natCast, (gf.2.2.2 t ht).1]
        rfl
      · have := g7.s e he
        have := gf.1
        omega
      · exact pairs_congr (fun q hq => by rw [HLD.out.l q, if_pos (jbs_mem.1 hq).1]) (gf.2.2.2 t ht).2
    clear gf g7 g8 h4 k4 H3 HLD HZ2
    obtain ⟨U, h4, hU, k4⟩ := H4.out
    obtain ⟨P, qv, ev, en, m, hP, -⟩ := h4.m
    obtain ⟨na, nc, hen⟩ := m.ot.form
    rw [List.length_map, HF.out.2.2.1] at hen
    subst hen
    have HM : Hid (Hm w4 P M.pt hb qb qv ev (.slice na K nc) r2.1 ∧ (∀ y, P y → w.heap.size ≤ y) ∧ Keeps (fun y => w.heap.size ≤ y) w w4) := ⟨m, fun y hy => hU y (hP y hy), k4⟩
    clear h4 hU k4 m hP H4
    go_wp2_with fail
    refine (hsteps w4 P M.pt hb qb qv ev (.slice na K nc) r2.1 HM.out.1).mono ?_
    rintro e w5 ⟨rfl, hws⟩
    have hws := hws.symm
    subst hws
    rw [HF.out.1]
    go_wp2_with fail
    refine (hidle_any HM.out.1).mono ?_
    rintro e w5 ⟨rfl, hws⟩
    have hws := hws.symm
    subst hws
    rw [HF.out.2.2.2.1]
    go_wp2_with fail
    go_loopw [14] (fun d wr => ∃ t : Nat, d = .int .i64 t ∧ t ≤ W ∧ wr = w4) (fun d _ => W - (intOf d).toNat)
    case atStart => exact ⟨0, rfl, by omega, rfl⟩
    case round =>
      obtain ⟨t, rfl, ht, rfl⟩ := hrel
      rename World => w4
      have t0 : (0 : Int) ≤ (t : Int) := Int.natCast_nonneg _
      by_cases h6 : t < W
      · have t1 : (t : Int) < (W : Int) := by omega
        go_wp2_with fail
        refine (hpend_any HM.out.1 (t : Int)).mono ?_
        rintro e w5 ⟨rfl, hws⟩
        have hws := hws.symm
        subst hws
        rw [HF.out.2.2.2.2.1 t h6]
        go_wp2
        go_roundw
        case rel => exact ⟨t + 1, by go_num, by omega, by trivial⟩
        case measure => simp [intOf]; omega
      · have t1 : ¬ (t : Int) < (W : Int) := by omega
        go_wp2_with fail
        refine (htake w4 P M.pt hb qb qv ev (.slice na K nc) r2.1 HM.out.1).mono ?_
        rintro e w5 ⟨rfl, m5, -, k5⟩
        have H5 : Hid (Hm w5 (fun y => P y ∧ (Value.slice na K nc).ownBlock ≠ some y) M.pt hb qb qv ev (.slice none 0 0) { r2.1 with en := [] } ∧ Keeps (fun y => w.heap.size ≤ y) w w5) := ⟨m5, HM.out.2.2.trans (k5.mono (fun y e => by rw [e]; exact HM.out.2.1 _ HM.out.1.fh))⟩
        have HP5 : Hid (∀ y, P y → w.heap.size ≤ y) := HM.out.2.1
        clear m5 k5 HM
        go_wp2_with fail
        refine (htake w5 _ M.pt hb qb qv ev (.slice none 0 0) _ H5.out.1).mono ?_
        rintro e w6 ⟨rfl, m6, -, k6⟩
        have H6 : Hid (Hm w6 (fun y => (P y ∧ (Value.slice na K nc).ownBlock ≠ some y) ∧ (Value.slice none 0 0).ownBlock ≠ some y) M.pt hb qb qv ev (.slice none 0 0) { r2.1 with en := [] } ∧ Keeps (fun y => w.heap.size ≤ y) w w6) := ⟨m6, H5.out.2.trans (k6.mono (fun y e => by rw [e]; exact HP5.out _ H5.out.1.fh.1))⟩
        clear m6 k6 H5
        go_wp2_with fail
        refine (hev_two w6 _ M.pt hb qb qv ev (.slice none 0 0) _ H6.out.1 (by show r2.1.ev.length ≤ _; have := HF.out.2.1; have := HL.out; omega)).mono ?_
        rintro e w7 ⟨v7, rfl, ho7, k7⟩
        obtain ⟨ea, ec, rfl⟩ := ho7.form
        have HK7 : Hid (Keeps (fun y => w.heap.size ≤ y) w w7) := H6.out.2.trans (k7.mono (fun _ e => e.elim))
        have HTD : Hid (∀ _ : Unit, _) := fun _ => told_any w7 w7.heap.size (Nat.le_refl _) W hW1 hW ja jc js (by have := (HJ.out w7 HK7.out).up HK7.out.size; rw [HL.out]; exact this) (by have := HL.out; omega) ea ec r2.1.ev ho7.in HF.out.2.1 HF.out.2.2.2.2.2.1 HF.out.2.2.2.2.2.2.1 HF.out.2.2.2.2.2.2.2.1 HF.out.2.2.2.2.2.2.2.2
        rw [HL.out] at HTD
        clear ho7 k7 H6
        go_wp2_with fail
        refine (HTD.out ()).mono ?_
        rintro e w8 ⟨rfl, k8⟩
        have HK8 : Hid (Keeps (fun y => w.heap.size ≤ y) w w8) := HK7.out.trans (k8.mono (fun _ e => e.elim))
        clear k8 HTD
        go_wp2
        go_ret
        exact ⟨rfl, HK8.out.below (Nat.le_refl _) (fun y hy e => by omega)⟩
  · have hx' : x < 1 ∨ (¬ x < 1 ∧ x > 16) ∨ (¬ x < 1 ∧ ¬ x > 16 ∧ (js.length : Int) > 40) := by omega
    clear hj hjt
    generalize js.length = K at *
    rcases hx' with h1 | ⟨h1, h2⟩ | ⟨h1, h2, h3⟩
    all_goals
      go_enter Tryz.func4, Tryz.ntmps4
      go_wp2
      go_ret
      exact ⟨rfl, Below.refl _ _⟩
end Go.Proofs.YtdpebhdjcgiboaaGreat
