import Derived.Test.YtegnmflbbpfdhaaGreatSg5
namespace Go.Proofs.YtegnmflbbpfdhaaGreat
set_option linter.unusedSimpArgs false
open Go.ChangeShapes Go.WideShapes Go.ChangeAt Go.RowKit Go.MuLone Go.RwLone
set_option linter.unusedVariables false
set_option maxRecDepth 100000
set_option maxHeartbeats 3200000
/-- A bench that was laid out behind w0, in the block bb, its threads' row tv. -/
structure BnG (w0 w : World) (B : Bd) (bb hb qb : Nat) (tv : Value) (a : Hp × Ls) : Prop where
  h : ∃ F qv ev en, Hm w F B.T hb qb qv ev en a.1 ∧ (∀ y, F y → ¬ fB B y) ∧ (∀ y, F y → w0.heap.size ≤ y) ∧ ¬ F bb ∧ (∀ g, tv.ownBlock = some g → ¬ F g)
  o : Bo B w a.2
  lo : ∀ y, fB B y → w0.heap.size ≤ y
  iv : Iv B.n a.1
  be : w.heap[bb]? = some (.cells (beA B.L tv hb) 73)
  ot : OwT w 0 tv ((List.range B.n).map B.T)
  nb : ¬ fB B bb
  nt : ∀ g, tv.ownBlock = some g → ¬ fB B g
  b0 : w0.heap.size ≤ bb
  bl : Below w0.heap.size w0 w
theorem own_lt {α : Type} {cs : α → List Value} {e : TypeId} {n : Nat} {w : World} {B : Nat} {v : Value} {xs : List α} (h : OwG cs e n w B v xs) {g : Nat} (hg : v.ownBlock = some g) : g < w.heap.size := (World.ownsRow.lt h g hg).2
theorem BnG.keeps {w0 w w' : World} {B : Bd} {bb hb qb : Nat} {tv : Value} {a : Hp × Ls} {D : Nat → Prop} (b : BnG w0 w B bb hb qb tv a) (k : Keeps D w w') (hF : ∀ F qv ev en, Hm w F B.T hb qb qv ev en a.1 → (∀ y, F y → w0.heap.size ≤ y) → True) (h1 : ∀ y, D y → False) : BnG w0 w' B bb hb qb tv a := by
  have k' : Keeps (fun _ => False) w w' := k.mono (fun y e => h1 y e)
  obtain ⟨F, qv, ev, en, m, d, l, nb, nt⟩ := b.h
  exact ⟨⟨F, qv, ev, en, m.still k', d, l, nb, nt⟩, b.o.far k' (fun _ e => e.elim), b.lo, b.iv, (k'.block _ (Array.getElem?_eq_some_iff.1 b.be).1 (fun e => e)).trans b.be, owK b.ot k' (fun _ _ e => e), b.nb, b.nt, b.b0, b.bl.trans (k'.below b.bl.size (fun _ _ e => e))⟩
theorem BnG.still {w0 w w' : World} {B : Bd} {bb hb qb : Nat} {tv : Value} {a : Hp × Ls} (b : BnG w0 w B bb hb qb tv a) (k : Keeps (fun _ => False) w w') : BnG w0 w' B bb hb qb tv a := b.keeps k (fun _ _ _ _ _ _ => trivial) (fun _ e => e)
theorem BnG.mid {w0 w w' : World} {B : Bd} {hB : BdOk B} {bb hb qb : Nat} {tv : Value} {a : Hp × Ls} {F F' : Nat → Prop} {qv' : Nat → Value} {ev' en' : Value} {h' : Hp} {s' : Ls} (b : BnG w0 w B bb hb qb tv a) (d : ∀ y, F y → w0.heap.size ≤ y) (nb : ¬ F bb) (nt : ∀ g, tv.ownBlock = some g → ¬ F g) (md : Mid (mcB B hB) w w' F hb qb F' qv' ev' en' h' s') (iv : Iv B.n h') : BnG w0 w' B bb hb qb tv (h', s') := by
  have lb := (Array.getElem?_eq_some_iff.1 b.be).1
  have hs := b.bl.size
  refine ⟨⟨F', qv', ev', en', md.m, md.d, fun y hy => (md.f y hy).elim (d y) (fun e => by omega), fun e => (md.f bb e).elim nb (fun e => by omega), fun g hg e => (md.f g e).elim (nt g hg) (fun e => by have := own_lt b.ot hg; omega)⟩, md.o, b.lo, iv, (md.k.block bb lb (fun e => e.elim nb b.nb)).trans b.be, owK b.ot md.k (fun g hg e => e.elim (nt g hg) (b.nt g hg)), b.nb, b.nt, b.b0, b.bl.trans (md.k.below hs (fun g hg e => ?_))⟩
  rcases e with e | e
  · have := d g e; omega
  · have := b.lo g e; omega
/-- The bench just laid out. -/
theorem La.bench {w0 wr : World} {M : Nat} {L : Lay} {S : AS} {bb hb qb n : Nat} {ts : Nat → List I8} {f : Nat → Bk} {tv : Value} (h : La w0 wr M L S bb hb qb n ts f n tv ((List.range n).map (fun j => (f j).T))) (wd : Nat) (h16 : n ≤ 4) (s1 : S.rc = 0) (s2 : S.n = 1) (s3 : S.use 0 = true) (s4 : S.wd = wd) (s5 : S.g0 = 0) (hw : ∀ i, i < wd → 0 ≤ S.word i ∧ S.word i < 18446744073709551616) : BnG w0 wr (bdOf L n wd ts f) bb hb qb tv (hp0 n, ⟨S.word, fun _ _ => 0, fun _ => 0⟩) := by
  have hh := h.hm
  have hq := h.qm
  have hb' := h.bm
  have hs := h.bl.size
  have hms := h.ms
  have pbm : ∀ j, j < n → M ≤ (f j).pb := fun j hj => by have := (h.ea j hj).o1; have := (h.ea j hj).o3; omega
  have typ : ∀ g, tv.ownBlock = some g → ∃ c, wr.heap[g]? = some (.cells c 75) ∧ M ≤ g := fun g hg => by
    obtain ⟨c, hc⟩ := blk h.ot hg
    exact ⟨c, hc, (World.ownsRow.lt h.ot g hg).1⟩
  refine ⟨⟨fH hb qb n f, _, _, _, h.hmem (by omega), h.dis wd, fun y hy => ?_, fun e => ?_, fun g hg e => ?_⟩, h.bo wd s1 s2 s3 s4 s5 hw, fun y hy => ?_, ?_, h.be, h.ot.down (Nat.zero_le _), fun e => ?_, fun g hg e => ?_, hb'.1, h.bl⟩
  · rcases hy with e | e | ⟨j, hj, e⟩
    · omega
    · omega
    · have := pbm j hj; omega
  · rcases e with e | e | ⟨j, hj, e⟩
    · exact h.d5 e
    · exact h.d6 e
    · have := pbm j hj; omega
  · obtain ⟨c, hc, hM⟩ := typ g hg
    rcases e with e | e | ⟨j, hj, e⟩
    · omega
    · omega
    · obtain ⟨_, _, _, _, cur, h2⟩ := owG_cap (h.ea j hj).op
      exact neT hc h2 (by decide) e
  · rcases hy with e | ⟨i, hi, e | e⟩
    · exact (h.lm y e).1
    · have e' : y = (f i).T := e
      have := (h.ea i hi).o1
      omega
    · have ho := (iaOf_own (h.ea i hi).oi).2 y e
      have := ((h.ea i hi).o2 y ho).1
      omega
  · refine ⟨fun i l hi => ?_, ?_, ?_⟩
    · obtain ⟨hlt, e⟩ := List.getElem?_eq_some_iff.1 hi
      have hin : i < n := by simpa [hp0] using hlt
      have e2 : l = [(i, (i : Int), false)] := by rw [← e]; simp [hp0]
      subst e2
      exact ⟨by simp, fun x hx => by simp at hx; subst hx; exact hin⟩
    · have e : ∀ n, (((List.range n).map (fun (j : Nat) => ([(j, (j : Int), false)] : List Pq))).map wtl).sum = 2 * n := fun n => by
        induction n with
        | zero => rfl
        | succ n ih => rw [List.range_succ, List.map_append, List.map_append, List.sum_append, ih]; simp [wtl, wtp]; omega
      show 0 + wtq _ ≤ _
      unfold wtq hp0
      dsimp only
      rw [e]; omega
    · have e : ∀ n, (((List.range n).map (fun (j : Nat) => ([(j, (j : Int), false)] : List Pq))).map List.length).sum = n := fun n => by
        induction n with
        | zero => rfl
        | succ n ih => rw [List.range_succ, List.map_append, List.map_append, List.sum_append, ih]; simp
      show 0 + szq _ ≤ _
      unfold szq hp0
      dsimp only
      rw [e]; omega
  · rcases e with e | ⟨i, hi, e | e⟩
    · exact h.d3 e
    · have e' : bb = (f i).T := e
      have := (h.ea i hi).o1
      omega
    · have ho := (iaOf_own (h.ea i hi).oi).2 bb e
      have := ((h.ea i hi).o2 bb ho).1
      omega
  · obtain ⟨c, hc, hM⟩ := typ g hg
    rcases e with e | ⟨i, hi, e | e⟩
    · have := (h.lm g e).2; omega
    · exact neT hc (h.ea i hi).th (by decide) e
    · have ho := (iaOf_own (h.ea i hi).oi).2 g e
      obtain ⟨c', hc'⟩ := blk (h.ea i hi).oi ho
      exact neT hc hc' (by decide) rfl
theorem PkR.of {w : World} {Fb : Nat → Prop} {B : Nat} {v : Value} {vs : List (Int × Int × Int)} (h : ownP w B v vs) (hB : ∀ x, Fb x → x < B) (hl : vs.length ≤ 140737488355328) (hn : ∀ p ∈ vs, p.2.2 ≤ 300) : PkR w Fb v vs := by
  rcases h.2 with ⟨rfl, h0⟩ | ⟨g, cap, cur, rfl, h1, h2, h3, h4, h5, h6⟩
  · exact ⟨none, 0, by rw [h0], hl, fun p hp => by have := hn p hp; omega, fun i hi => by omega⟩
  · have lg := (Array.getElem?_eq_some_iff.1 h2).1
    have c : ∀ j, j < vs.length * 3 → w.cell? ⟨g, j, none⟩ = (cellsP vs)[j]? := fun j hj => by
      have e : w.cell? ⟨g, j, none⟩ = cur[j]? := by simp [World.cell?, h2]
      rw [e, ← h6, List.getElem?_take, if_pos hj, Array.getElem?_toList]
    refine ⟨some ⟨g, 0, none⟩, cap, rfl, hl, fun p hp => by have := hn p hp; omega, fun i hi => ⟨g, 0, rfl, fun e => by have := hB g e; omega, lg, ?_, ?_, ?_⟩⟩
    all_goals
      have e := cellsP_get vs i hi
      rw [Nat.zero_add]
    · rw [c _ (by omega)]; exact e.1
    · rw [c _ (by omega)]; exact e.2.1
    · rw [c _ (by omega)]; exact e.2.2
def retI (b : Bool) (l bd : Nat) : Int := if b then (bd : Int) - (l : Int) else (bd : Int)
theorem retP_I (b : Bool) (l bd : Nat) : ∃ y, retP b l bd = .tuple #[.int .i64 (retI b l bd), .int .i64 y] := by
  unfold retP retI; cases b <;> exact ⟨_, rfl⟩
theorem bplayG (w0 w : World) (B : Bd) (hB : BdOk B) (bb hb qb : Nat) (tv : Value) (a : Hp × Ls) (b : BnG w0 w B bb hb qb tv a) (s : ByteArray) (hs : s.size ≤ 1048576) :
    Calls Tryz.prog 20 #[.pointer (some ⟨bb, 0, none⟩), .string s] w fun e w' => e = .returned (.int .i64 (retI (playP (mcB B hB) (dL s.data.toList) 14 a).1 (playP (mcB B hB) (dL s.data.toList) 14 a).2.1 14)) ∧ BnG w0 w' B bb hb qb tv (playP (mcB B hB) (dL s.data.toList) 14 a).2.2 := by
  have H : Hid (BnG w0 w.drew B bb hb qb tv a) := b.still (Keeps.refl _ _).drew
  have HD : Hid (∀ W, Calls Tryz.prog 42 #[.string s] W fun e w' => ∃ v, e = .returned v ∧ ownP w' W.heap.size v (dL s.data.toList) ∧ Below W.heap.size W w') := fun W => decode_any s W (by omega)
  have HL : Hid ((dL s.data.toList).length ≤ 1048576 ∧ ∀ p ∈ dL s.data.toList, p.2.2 ≤ 300) := ⟨by have := (dL_len _ s.data.toList (Nat.le_refl _)).1; rw [len_list] at this; omega, dL_small _ _ (Nat.le_refl _)⟩
  have HC := b.be
  clear b
  generalize dL s.data.toList = vs at *
  go_enter Tryz.func20, Tryz.ntmps20
  go_wp2_with fail
  (refine wp_region_held_drew (S := (fun W => W.cell? ⟨bb, 3, none⟩ = some (.pointer (some ⟨hb, 0, none⟩)))) (by kernel_rfl) ((cell?_heap HC 3).trans rfl) (fun hHeld => ?_); simp only [List.size_toArray, List.length_cons, List.length_nil, Nat.reduceAdd, Array.replicate_succ, Array.replicate_zero, List.push_toArray, List.append_toArray, List.nil_append, List.cons_append])
  clear HC
  (refine tk0 (v := ?_) (by kernel_rfl) (by kernel_rfl) (by kernel_rfl) (fun _ _ _ h => h) (Or.inl ⟨by rfl, ?_⟩) (by assumption) ?_; rotate_left; (focus (intro w hSw; (try dsimp only at hSw); go_simp; (try first | (rw [dif_pos (by omega)]; simp only [Result.andThen_ok]) | rw [if_pos (by omega)]); (try with_reducible rfl); done)); try simp only [Act.put, List.setIfInBounds_toArray, List.set_cons_zero, List.set_cons_succ])
  (refine tk1 (v := ?_) (by kernel_rfl) (by kernel_rfl) (by kernel_rfl) (fun _ _ _ h => h) (Or.inl ⟨by rfl, ?_⟩) (by assumption) ?_; rotate_left; (focus (intro w hSw; (try dsimp only at hSw); go_simp; (try first | (rw [dif_pos (by omega)]; simp only [Result.andThen_ok]) | rw [if_pos (by omega)]); (try with_reducible rfl); done)); try simp only [Act.put, List.setIfInBounds_toArray, List.set_cons_zero, List.set_cons_succ])
  (refine tk2 (v := ?_) (by kernel_rfl) (by kernel_rfl) (by kernel_rfl) (fun _ _ _ h => h) (Or.inl ⟨by rfl, ?_⟩) (by assumption) ?_; rotate_left; (focus (intro w hSw; (try dsimp only at hSw); go_simp; (try first | (rw [dif_pos (by omega)]; simp only [Result.andThen_ok]) | rw [if_pos (by omega)]); (try with_reducible rfl); done)); try simp only [Act.put, List.setIfInBounds_toArray, List.set_cons_zero, List.set_cons_succ])
  (refine tk3 (v := ?_) (by kernel_rfl) (by kernel_rfl) (by kernel_rfl) (fun _ _ _ h => h) (Or.inl ⟨by rfl, ?_⟩) (by assumption) ?_; rotate_left; (focus (intro w hSw; (try dsimp only at hSw); go_simp; (try first | (rw [dif_pos (by omega)]; simp only [Result.andThen_ok]) | rw [if_pos (by omega)]); (try with_reducible rfl); done)); try simp only [Act.put, List.setIfInBounds_toArray, List.set_cons_zero, List.set_cons_succ])
  (refine tk4 (v := ?_) (by kernel_rfl) (by kernel_rfl) (by kernel_rfl) (fun _ _ _ h => h) (Or.inl ⟨by rfl, ?_⟩) (by assumption) ?_; rotate_left; (focus (intro w hSw; (try dsimp only at hSw); go_simp; (try first | (rw [dif_pos (by omega)]; simp only [Result.andThen_ok]) | rw [if_pos (by omega)]); (try with_reducible rfl); done)); try simp only [Act.put, List.setIfInBounds_toArray, List.set_cons_zero, List.set_cons_succ])
  (refine wpAnyH_ready (rs := [5]) (by kernel_rfl) (by simp) ?_; refine ar5 (fun K hK => ?_) AllReadyH.nil; go_simp)
  refine (HD.out w.drew).mono ?_
  rintro e w1 ⟨v, rfl, ho, hb1⟩
  have H1 : Hid (BnG w0 w1 B bb hb qb tv a) := H.out.still (Below.keeps hb1 _)
  obtain ⟨F, qv, ev, en, m, d, l, nb, nt⟩ := H.out.h
  have HPk : Hid (PkR w1 (fun x => F x ∨ fB B x) v vs) := PkR.of ho (fun x e => e.elim (m.lt x) (H.out.o.lt)) (by have := HL.out.1; omega) HL.out.2
  have HM : Hid (Hm w1 F B.T hb qb qv ev en a.1 ∧ (∀ y, F y → ¬ fB B y) ∧ (∀ y, F y → w0.heap.size ≤ y) ∧ ¬ F bb ∧ (∀ g, tv.ownBlock = some g → ¬ F g)) := ⟨m.still (Below.keeps hb1 _), d, l, nb, nt⟩
  clear ho hb1 H HD m d l nb nt
  have HC1 := H1.out.be
  (refine hK.out _ _ ((cell?_heap HC1 3).trans rfl) (fun hHeld => ?_); clear hK K; try simp only [Act.put, List.setIfInBounds_toArray, List.set_cons_zero, List.set_cons_succ])
  clear HC1
  (refine wpAnyH_ready (rs := [6]) (by kernel_rfl) (by simp) ?_; refine ar6 (fun K hK => ?_) AllReadyH.nil; go_simp)
  refine (hplay_any (mcB B hB) w1 F hb qb qv ev en a HM.out.1 H1.out.o HM.out.2.1 H1.out.iv 14 (by decide) v vs HPk.out).mono ?_
  rintro e w2 ⟨rfl, iv2, F2, qv2, ev2, en2, md⟩
  have H2 : Hid (BnG w0 w2 B bb hb qb tv (playP (mcB B hB) vs 14 a).2.2) := H1.out.mid HM.out.2.2.1 HM.out.2.2.2.1 HM.out.2.2.2.2 md iv2
  clear iv2 md H1 HL HM HPk
  obtain ⟨y, hy⟩ := retP_I (playP (mcB B hB) vs 14 a).1 (playP (mcB B hB) vs 14 a).2.1 14
  rw [hy]
  clear hy
  obtain ⟨rr, hrr⟩ : ∃ rr, retI (playP (mcB B hB) vs 14 a).1 (playP (mcB B hB) vs 14 a).2.1 14 = rr := ⟨_, rfl⟩
  have HRR : Hid (retI (playP (mcB B hB) vs 14 a).1 (playP (mcB B hB) vs 14 a).2.1 14 = rr) := hrr
  rw [hrr]
  clear hrr
  have HC2 := H2.out.be
  (refine hK.out _ _ ((cell?_heap HC2 3).trans rfl) (fun hHeld => ?_); clear hK K; try simp only [Act.put, List.setIfInBounds_toArray, List.set_cons_zero, List.set_cons_succ])
  (refine tk7 (v := ?_) (by kernel_rfl) (by kernel_rfl) (by kernel_rfl) (fun _ _ _ h => h) (Or.inl ⟨by rfl, ?_⟩) (by assumption) ?_; rotate_left; (focus (intro w hSw; (try dsimp only at hSw); go_simp; (try first | (rw [dif_pos (by omega)]; simp only [Result.andThen_ok]) | rw [if_pos (by omega)]); (try with_reducible rfl); done)); try simp only [Act.put, List.setIfInBounds_toArray, List.set_cons_zero, List.set_cons_succ])
  (refine tk8 (v := ?_) (by kernel_rfl) (by kernel_rfl) (by kernel_rfl) (fun _ _ _ h => h) (Or.inl ⟨by rfl, ?_⟩) (by assumption) ?_; rotate_left; (focus (intro w hSw; (try dsimp only at hSw); go_simp; (try first | (rw [dif_pos (by omega)]; simp only [Result.andThen_ok]) | rw [if_pos (by omega)]); (try with_reducible rfl); done)); try simp only [Act.put, List.setIfInBounds_toArray, List.set_cons_zero, List.set_cons_succ])
  (refine tk9 (v := ?_) (by kernel_rfl) (by kernel_rfl) (by kernel_rfl) (fun _ _ _ h => h) (Or.inl ⟨by rfl, ?_⟩) (by assumption) ?_; rotate_left; (focus (intro w hSw; (try dsimp only at hSw); go_simp; (try first | (rw [dif_pos (by omega)]; simp only [Result.andThen_ok]) | rw [if_pos (by omega)]); (try with_reducible rfl); done)); try simp only [Act.put, List.setIfInBounds_toArray, List.set_cons_zero, List.set_cons_succ])
  (refine tk10 (v := ?_) (by kernel_rfl) (by kernel_rfl) (by kernel_rfl) (fun _ _ _ h => h) (Or.inl ⟨by rfl, ?_⟩) (by assumption) ?_; rotate_left; (focus (intro w hSw; (try dsimp only at hSw); go_simp; (try first | (rw [dif_pos (by omega)]; simp only [Result.andThen_ok]) | rw [if_pos (by omega)]); (try with_reducible rfl); done)); try simp only [Act.put, List.setIfInBounds_toArray, List.set_cons_zero, List.set_cons_succ])
  (refine tk11 (v := ?_) (by kernel_rfl) (by kernel_rfl) (by kernel_rfl) (fun _ _ _ h => h) (Or.inl ⟨by rfl, ?_⟩) (by assumption) ?_; rotate_left; (focus (intro w hSw; (try dsimp only at hSw); go_simp; (try first | (rw [dif_pos (by omega)]; simp only [Result.andThen_ok]) | rw [if_pos (by omega)]); (try with_reducible rfl); done)); try simp only [Act.put, List.setIfInBounds_toArray, List.set_cons_zero, List.set_cons_succ])
  refine wpAnyH_done (by kernel_rfl) ?_ _
  clear HC2
  go_wp2
  go_ret
  rw [HRR.out]
  exact ⟨rfl, H2.out⟩
end Go.Proofs.YtegnmflbbpfdhaaGreat
