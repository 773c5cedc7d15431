import Derived.Test.YtdpebhdjcgiboaaGreatSdQ
import Derived.Test.YtdpebhdjcgiboaaGreatSrJ
namespace Go.Proofs.YtdpebhdjcgiboaaGreat
set_option linter.unusedSimpArgs false
open Go.ChangeShapes Go.WideShapes Go.ChangeAt Go.RowKit
set_option linter.unusedVariables false

theorem drop_at (s : ByteArray) (k : Nat) (h : k < s.size) : s.data.toList.drop k = s[k] :: s.data.toList.drop (k + 1) := by
  have hl : k < s.data.toList.length := by rw [len_list]; exact h
  rw [List.drop_eq_getElem_cons hl]
  simp [ByteArray.getElem_eq_getElem_data]
theorem drop_all (s : ByteArray) (k : Nat) (h : s.size ≤ k) : s.data.toList.drop k = [] := List.drop_eq_nil_of_le (by rw [len_list]; exact h)
set_option maxRecDepth 100000 in
set_option maxHeartbeats 6400000 in
theorem refDecode (s : ByteArray) (w : World) (hs : s.size ≤ 1466015503360) :
    Calls Tryz.prog 95 #[.string s] w fun e w' => ∃ v, e = .returned v ∧ ownP w' w.heap.size v (dL s.data.toList) ∧ Below w.heap.size w w' := by
  go_enter Tryz.func95, Tryz.ntmps95
  go_wp2_with fail
  go_loopw [3, 4] (fun c i wr => ∃ (k : Nat) (acc : List (Int × Int × Int)), i = .int .i64 (k : Int) ∧ k ≤ s.size ∧ acc.length ≤ k ∧ ownP wr w.heap.size c acc ∧ Below w.heap.size w wr ∧ acc ++ dL (s.data.toList.drop k) = dL s.data.toList) (fun _ i _ => s.size - (intOf i).toNat)
  case atStart => exact ⟨0, [], rfl, by omega, by simp, ownP_nil _ _, Below.refl _ _, by simp⟩
  case round =>
    obtain ⟨k, acc, rfl, hk, hlen, hown, hbel, hv⟩ := hrel
    have HV : Hid (acc ++ dL (s.data.toList.drop k) = dL s.data.toList) := hv
    have HO : Hid (∀ o, ownP (wr.alloc o) w.heap.size _ acc) := fun o => hown.same (fun k hk _ => Below.heap_alloc wr o k hk)
    have HB : Hid (∀ o, Below w.heap.size w (wr.alloc o)) := fun o => hbel.alloc hbel.size o
    have HO0 : Hid (ownP wr w.heap.size _ acc) := hown
    have HB0 : Hid (Below w.heap.size w wr) := hbel
    clear hv hown hbel
    by_cases hl : k < s.size
    · have hl' : (k : Int) < (s.size : Int) := by omega
      have hb := s[k].toNat_lt
      have hal : (acc.length + 1) * 24 ≤ 140737488355328 := by omega
      have hd0 := drop_at s k hl
      obtain ⟨d1, d2, d3⟩ := dL_step (s.data.toList.drop k) (by rw [hd0]; simp)
      rw [List.drop_drop] at d1
      have HD : Hid _ := d1
      clear d1 d2 d3
      have he1 := ent_one (s.data.toList.drop k) s[k] _ hd0
      rcases (show (s[k].toNat / 32 = 1 ∧ k + 1 < s.size) ∨ (s[k].toNat / 32 = 1 ∧ ¬ k + 1 < s.size) ∨ s[k].toNat / 32 = 0 ∨ s[k].toNat / 32 = 2 ∨ s[k].toNat / 32 = 3 ∨ s[k].toNat / 32 = 4 ∨ (s[k].toNat / 32 = 5 ∧ s[k].toNat = 160) ∨ (s[k].toNat / 32 = 5 ∧ s[k].toNat ≠ 160) ∨ s[k].toNat / 32 = 6 ∨ s[k].toNat / 32 = 7 by omega) with ⟨o, c2⟩ | ⟨o, c2⟩ | o | o | o | o | ⟨o, ob⟩ | ⟨o, ob⟩ | o | o
      case' inl =>
        have hd1 := drop_at s (k + 1) c2
        rw [hd1] at hd0
        have he := ent_two _ s[k] s[k + 1] _ hd0 o
        have hc := s[k + 1].toNat_lt
        have HE : Hid (ent (s.data.toList.drop k) = (((2, (s[k].toNat : Int) % 32, (s[k + 1].toNat : Int) + 1) : Int × Int × Int), (2 : Nat))) := by show _ = _; rw [he]; simp
        have o' : ((s[k].toNat : Nat) : Int) / 32 = 1 := by omega
        have c2' : (k : Int) + 1 < (s.size : Int) := by omega
        clear hd1 he
        clear o
      case' inr.inl =>
        have HE : Hid (ent (s.data.toList.drop k) = (((0, 0, (s[k].toNat : Int)) : Int × Int × Int), (1 : Nat))) := by
          show _ = _
          rw [he1 (.inr (drop_all s (k + 1) (by omega)))]
          unfold one
          rw [if_neg (by omega), if_neg (by omega), if_neg (by omega), if_neg (by omega), if_neg (by omega)]
        have o' : ((s[k].toNat : Nat) : Int) / 32 = 1 := by omega
        have c2' : ¬ (k : Int) + 1 < (s.size : Int) := by omega
        clear o
      case' inr.inr.inl =>
        have HE : Hid (ent (s.data.toList.drop k) = (((1, (s[k].toNat : Int) % 32, 1) : Int × Int × Int), (1 : Nat))) := by show _ = _; rw [he1 (.inl (by omega))]; unfold one; rw [if_pos o]; simp
        have o' : ((s[k].toNat : Nat) : Int) / 32 = 0 := by omega
        clear o
      case' inr.inr.inr.inl =>
        have HE : Hid (ent (s.data.toList.drop k) = (((3, (s[k].toNat : Int) % 32, 1) : Int × Int × Int), (1 : Nat))) := by show _ = _; rw [he1 (.inl (by omega))]; unfold one; rw [if_neg (by omega), if_pos o]; simp
        have o' : ((s[k].toNat : Nat) : Int) / 32 = 2 := by omega
        clear o
      case' inr.inr.inr.inr.inl =>
        have HE : Hid (ent (s.data.toList.drop k) = (((4, 0, (s[k].toNat : Int) % 32 + 1) : Int × Int × Int), (1 : Nat))) := by show _ = _; rw [he1 (.inl (by omega))]; unfold one; rw [if_neg (by omega), if_neg (by omega), if_pos o]; simp
        have o' : ((s[k].toNat : Nat) : Int) / 32 = 3 := by omega
        clear o
      case' inr.inr.inr.inr.inr.inl =>
        have HE : Hid (ent (s.data.toList.drop k) = (((5, (s[k].toNat : Int) % 32, 1) : Int × Int × Int), (1 : Nat))) := by show _ = _; rw [he1 (.inl (by omega))]; unfold one; rw [if_neg (by omega), if_neg (by omega), if_neg (by omega), if_pos o]; simp
        have o' : ((s[k].toNat : Nat) : Int) / 32 = 4 := by omega
        clear o
      case' inr.inr.inr.inr.inr.inr.inl =>
        have HE : Hid (ent (s.data.toList.drop k) = (((6, 0, 0) : Int × Int × Int), (1 : Nat))) := by show _ = _; rw [he1 (.inl (by omega))]; unfold one; rw [if_neg (by omega), if_neg (by omega), if_neg (by omega), if_neg (by omega), if_pos ob]
        have o' : ((s[k].toNat : Nat) : Int) = 160 := by omega
        clear ob
        clear o
      case' inr.inr.inr.inr.inr.inr.inr.inl =>
        have HE : Hid (ent (s.data.toList.drop k) = (((0, 0, (s[k].toNat : Int)) : Int × Int × Int), (1 : Nat))) := by show _ = _; rw [he1 (.inl (by omega))]; unfold one; rw [if_neg (by omega), if_neg (by omega), if_neg (by omega), if_neg (by omega), if_neg ob]
        have o' : ((s[k].toNat : Nat) : Int) / 32 = 5 := by omega
        have ob' : (((s[k].toNat : Nat) : Int) == 160) = false := by simp; omega
        clear ob
        clear o
      case' inr.inr.inr.inr.inr.inr.inr.inr.inl =>
        have HE : Hid (ent (s.data.toList.drop k) = (((0, 0, (s[k].toNat : Int)) : Int × Int × Int), (1 : Nat))) := by show _ = _; rw [he1 (.inl (by omega))]; unfold one; rw [if_neg (by omega), if_neg (by omega), if_neg (by omega), if_neg (by omega), if_neg (by omega)]
        have o' : ((s[k].toNat : Nat) : Int) / 32 = 6 := by omega
        clear o
      case' inr.inr.inr.inr.inr.inr.inr.inr.inr =>
        have HE : Hid (ent (s.data.toList.drop k) = (((0, 0, (s[k].toNat : Int)) : Int × Int × Int), (1 : Nat))) := by show _ = _; rw [he1 (.inl (by omega))]; unfold one; rw [if_neg (by omega), if_neg (by omega), if_neg (by omega), if_neg (by omega), if_neg (by omega)]
        have o' : ((s[k].toNat : Nat) : Int) / 32 = 7 := by omega
        clear o
      all_goals
        clear he1 hd0
        rw [HE.out] at HD
        simp only at HD
        go_wp2_with (at_builtin; refine app_pick (by rfl) _ _ (by rfl) w.heap.size _ acc (_, _, _) (HO.out _) (by rfl) (wr.heap.size + 1) (by simp) (by rfl) hal (HB.out _).size ?_; intro v' w6 hown6 hbel6; have HO6 : Hid (ownP w6 w.heap.size v' _) := hown6; have HB6 : Hid (Below w.heap.size w w6) := (HB.out _).trans hbel6; clear hown6 hbel6)
        first
        | (refine ⟨⟨k + 1, _, by go_num, by omega, ?_, HO6.out, HB6.out, ?_⟩, ?_⟩
           · simp; omega
           · rw [List.append_assoc, List.singleton_append, ← HD.out]; exact HV.out
           · simp [intOf]; omega)
        | (refine ⟨⟨k + 2, _, by go_num, by omega, ?_, HO6.out, HB6.out, ?_⟩, ?_⟩
           · simp; omega
           · rw [List.append_assoc, List.singleton_append, ← HD.out]; exact HV.out
           · simp [intOf]; omega)
    · have HE : Hid (acc = dL s.data.toList) := by
        show _ = _
        have := HV.out
        rw [drop_all s k (by omega)] at this
        simpa [dL] using this
      have hl' : ¬ (k : Int) < (s.size : Int) := by omega
      clear HV HO HB
      go_wp2
      go_ret
      exact ⟨_, rfl, by rw [← HE.out]; exact HO0.out, HB0.out⟩
end Go.Proofs.YtdpebhdjcgiboaaGreat

namespace Go.Proofs.YtdpebhdjcgiboaaGreat
set_option linter.unusedSimpArgs false
open Go.ChangeShapes Go.WideShapes Go.ChangeAt Go.RowKit Go.MuLone Go.RwLone
set_option linter.unusedVariables false
set_option maxRecDepth 100000
set_option maxHeartbeats 3200000
theorem iv_hp0 (n : Nat) (h16 : n ≤ 4) : Iv n (hp0 n) := by
  refine ⟨fun i l hi => ?_, ?_, ?_⟩
  · obtain ⟨hlt, e⟩ := List.getElem?_eq_some_iff.1 hi
    have hin : i < n := by simpa [hp0] using hlt
    have e2 : l = [(i, (i : Int), false)] := by rw [← e]; simp [hp0]
    subst e2
    exact ⟨by simp, fun x hx => by simp at hx; subst hx; exact hin⟩
  · have e : ∀ n, (((List.range n).map (fun (j : Nat) => ([(j, (j : Int), false)] : List Pq))).map wtl).sum = 2 * n := fun n => by
      induction n with
      | zero => rfl
      | succ n ih => rw [List.range_succ, List.map_append, List.map_append, List.sum_append, ih]; simp [wtl, wtp]; omega
    show 0 + wtq _ ≤ _
    unfold wtq hp0
    dsimp only
    rw [e]; omega
  · have e : ∀ n, (((List.range n).map (fun (j : Nat) => ([(j, (j : Int), false)] : List Pq))).map List.length).sum = n := fun n => by
      induction n with
      | zero => rfl
      | succ n ih => rw [List.range_succ, List.map_append, List.map_append, List.sum_append, ih]; simp
    show 0 + szq _ ≤ _
    unfold szq hp0
    dsimp only
    rw [e]; omega
/-- A harness whose first t workers have been handed their machine. -/
def hpT (n t : Nat) : Hp := ⟨(List.range n).map (fun j => if j < t then [(j, (j : Int), false)] else []), 0, [], []⟩
theorem hpT_len (n t : Nat) : (hpT n t).q.length = n := by simp [hpT]
theorem hpT_all (n : Nat) : hpT n n = hp0 n := by
  unfold hpT hp0
  congr 1
  apply List.map_congr_left
  intro j hj
  rw [if_pos (List.mem_range.1 hj)]
theorem hpT_set (n t : Nat) (ht : t < n) : ({ hpT n t with q := (hpT n t).q.set t [(t, (t : Int), false)] } : Hp) = hpT n (t + 1) := by
  unfold hpT
  dsimp only
  congr 1
  apply List.ext_getElem
  · simp
  · intro i h1 h2
    have hi : i < n := by simpa using h2
    rw [List.getElem_set]
    by_cases e : t = i
    · subst e
      simp
    · rw [if_neg e]
      simp only [List.getElem_map, List.getElem_range]
      by_cases e2 : i < t
      · rw [if_pos e2, if_pos (by omega)]
      · rw [if_neg e2, if_neg (by omega)]
/-- A bench of the document's, since w0. -/
structure Bs (w0 w : World) (R : Rd) (hb qb : Nat) (a : Hp × Ls) : Prop where
  m : ∃ F qv ev en, Rh w F R.bk hb qb qv ev en a.1 ∧ ∀ y, F y → w0.heap.size ≤ y ∧ ¬ fR R y
  o : RP R w a.2
  iv : Iv R.n a.1
  fr : ∀ y, fR R y → w0.heap.size ≤ y
  hp : w.cell? ⟨R.bk, 2, none⟩ = some (.pointer (some ⟨hb, 0, none⟩))
  bl : Below w0.heap.size w0 w
  cw : R.wd ≤ R.cc
theorem Bs.still {w0 w w' : World} {R : Rd} {hb qb : Nat} {a : Hp × Ls} (h : Bs w0 w R hb qb a) (k : Keeps (fun _ => False) w w') : Bs w0 w' R hb qb a := by
  obtain ⟨F, qv, ev, en, m, l⟩ := h.m
  exact ⟨⟨F, qv, ev, en, m.still k, l⟩, h.o.still k, h.iv, h.fr, (k.cell (p := ⟨R.bk, 2, none⟩) (h.o.lt _ (.inr (.inl rfl))) (fun e => e)).trans h.hp, h.bl.trans (k.below h.bl.size (fun _ _ e => e)), h.cw⟩
theorem Bs.next {w0 w w' : World} {R : Rd} (hR : RdOk R) {hb qb : Nat} {a a' : Hp × Ls} {F : Nat → Prop} (h : Bs w0 w R hb qb a) (l0 : ∀ y, F y → w0.heap.size ≤ y ∧ ¬ fR R y) (p : Pr R w w' F hb qb a') : Bs w0 w' R hb qb a' := by
  obtain ⟨F', qv, ev, en, m, f, d⟩ := p.mid
  have lb : R.bk < w.heap.size := h.o.lt _ (.inr (.inl rfl))
  have nb : ¬ (F R.bk ∨ fRw R R.bk) := fun e => e.elim (fun e => (l0 _ e).2 (.inr (.inl rfl))) (fun e => hR.bk e)
  refine ⟨⟨F', qv, ev, en, m, fun y hy => ⟨?_, d y hy⟩⟩, p.o, p.iv, h.fr, (p.k.cell (p := ⟨R.bk, 2, none⟩) lb nb).trans h.hp, h.bl.trans (p.k.below h.bl.size (fun k hk e => ?_)), h.cw⟩
  · rcases f y hy with e | e
    · exact (l0 y e).1
    · have := h.bl.size; omega
  · rcases e with e | e
    · have := (l0 _ e).1; omega
    · have := h.fr _ (.inl e); omega
/-- The document's Bench.Play. -/
theorem rbplay (w0 w : World) (R : Rd) (hR : RdOk R) (hb qb : Nat) (a : Hp × Ls) (b : Bs w0 w R hb qb a) (s : ByteArray) (hs : s.size ≤ 1048576) :
    Calls Tryz.prog 53 #[.pointer (some ⟨R.bk, 0, none⟩), .string s] w fun e w' => ∃ d : Nat, d ≤ 1099511627776 ∧ (playP (PM R) (dL s.data.toList) 1099511627776 a).2.1 = 1099511627776 - d ∧ e = .returned (.int .i64 (d : Int)) ∧ Bs w0 w' R hb qb (playP (PM R) (dL s.data.toList) 1099511627776 a).2.2 := by
  have H : Hid (Bs w0 w.drew R hb qb a) := b.still (Keeps.refl _ _).drew
  have HD : Hid (∀ W, Calls Tryz.prog 95 #[.string s] W fun e w' => ∃ v, e = .returned v ∧ ownP w' W.heap.size v (dL s.data.toList) ∧ Below W.heap.size W w') := fun W => refDecode s W (by omega)
  have HL : Hid ((dL s.data.toList).length ≤ 1048576 ∧ ∀ p ∈ dL s.data.toList, p.2.2 ≤ 300) := ⟨by have := (dL_len _ s.data.toList (Nat.le_refl _)).1; rw [len_list] at this; omega, dL_small _ _ (Nat.le_refl _)⟩
  have HC : w.drew.cell? ⟨R.bk, 2, none⟩ = some (.pointer (some ⟨hb, 0, none⟩)) := H.out.hp
  clear b
  generalize dL s.data.toList = vs at *
  go_enter Tryz.func53, Tryz.ntmps53
  go_wp2_with fail
  (refine wp_region_held_drew (S := (fun W => W.cell? ⟨R.bk, 2, none⟩ = some (.pointer (some ⟨hb, 0, none⟩)))) (by kernel_rfl) HC (fun hHeld => ?_); simp only [List.size_toArray, List.length_cons, List.length_nil, Nat.reduceAdd, Array.replicate_succ, Array.replicate_zero, List.push_toArray, List.append_toArray, List.nil_append, List.cons_append])
  clear HC
  refine rgT 0 (h := ?_)
  refine rgT 1 (h := ?_)
  refine rgT 2 (h := ?_)
  refine rgT 3 (h := ?_)
  refine rgT 4 (h := ?_)
  (refine rgS 5 (h := fun K hK => ?_); go_simp)
  refine (HD.out w.drew).mono ?_
  rintro e w1 ⟨v, rfl, ho, hb1⟩
  have H1 : Hid (Bs w0 w1 R hb qb a) := H.out.still (Below.keeps hb1 _)
  obtain ⟨F, qv, ev, en, m, l⟩ := H.out.m
  have HPk : Hid (PkR w1 (fun x => F x ∨ fRw R x) v vs) := PkR.of ho (fun x e => e.elim (m.lt x) (fun e => H.out.o.lt x (.inl e))) (by have := HL.out.1; omega) HL.out.2
  have HP : Hid (Pr R w1 w1 F hb qb a ∧ ∀ y, F y → w0.heap.size ≤ y ∧ ¬ fR R y) := ⟨⟨⟨F, qv, ev, en, m.still (Below.keeps hb1 _), fun y hy => .inl hy, fun y hy => (l y hy).2⟩, H1.out.o, Keeps.refl _ _, H1.out.iv⟩, l⟩
  have HC1 := H1.out.hp
  clear ho hb1 H HD m l
  (refine hK.out _ _ HC1 (fun hHeld => ?_); clear hK K; try simp only [Act.put, List.setIfInBounds_toArray, List.set_cons_zero, List.set_cons_succ])
  clear HC1
  (refine rgS 6 (h := fun K hK => ?_); go_simp)
  refine (rplay_any hR HP.out.1 1099511627776 (by omega) v vs HPk.out).mono ?_
  rintro e w2 ⟨d, hd, hl, rfl, p2⟩
  have H2 : Hid (Bs w0 w2 R hb qb (playP (PM R) vs 1099511627776 a).2.2) := H1.out.next hR HP.out.2 p2
  have HL2 : Hid ((playP (PM R) vs 1099511627776 a).2.1 = 1099511627776 - d) := hl
  have HC2 := H2.out.hp
  generalize erC (playP (PM R) vs 1099511627776 a).1 = ee at *
  clear p2 H1 HL HP HPk hl
  (refine hK.out _ _ HC2 (fun hHeld => ?_); clear hK K; try simp only [Act.put, List.setIfInBounds_toArray, List.set_cons_zero, List.set_cons_succ])
  clear HC2
  refine rgT 7 (h := ?_)
  refine rgT 8 (h := ?_)
  refine rgT 9 (h := ?_)
  refine rgT 10 (h := ?_)
  refine rgT 11 (h := ?_)
  refine wpAnyH_done (by kernel_rfl) ?_ _
  go_wp2
  go_ret
  exact ⟨d, hd, HL2.out, rfl, H2.out⟩
end Go.Proofs.YtdpebhdjcgiboaaGreat
