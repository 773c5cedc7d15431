import Derived.Test.YteekompojgbkhaaGreatKBmC
import Derived.Test.YteekompojgbkhaaGreatKReS
namespace Go.Proofs.YteekompojgbkhaaGreat
set_option linter.unusedSimpArgs false
open Go.ChangeShapes Go.WideShapes Go.ChangeAt Go.RowKit Go.MuLone Go.RwLone
set_option linter.unusedVariables false
set_option maxRecDepth 100000
set_option maxHeartbeats 6400000
/-- A list behind a row of one's own: where the row lies then, and that nothing else is changed. -/
theorem app_list_wp {α : Type} {cs : α → List Value} {wr : World} {o : Oper} {a : Act} {K : Act → World → Prop} {Q : Exit → Act → World → Prop} (s x : Operand) (t e : TypeId)
    (ho : o.op = .call { callee := .builtin .append, args := #[s, x], argTypes := #[t, t] })
    {z : Value} {n bytes : Nat} (hu : Tryz.prog.underlying t = some (.slice e)) (hinfo : (Tryz.prog.info? e).map (fun i => (i.zero, i.size, i.bytes)) = some (some z, n, bytes)) (hzs : z.cells.size = n) (hn0 : 0 < n) (hn : ∀ y, (cs y).length = n)
    (v : Value) (xs ys : List α) (hown : OwG cs e n wr 0 v xs) (hs : a.eval s = v) (B2 : Nat) (v2 : Value) (hys : OwG cs e n wr B2 v2 ys) (hne : ys = [] → v2 = .slice none 0 0) (hx : a.eval x = v2) (h1 : ∀ y, ∀ u ∈ cs y, u.oneCell' = true)
    (hm : xs.length + ys.length < maxLen) (hbytes : (xs.length + ys.length) * bytes ≤ 140737488355328)
    (h : ∀ v' w', OwG cs e n w' 0 v' (xs ++ ys) → Keeps (fun k => v.ownBlock = some k) wr w' → (∀ g, v'.ownBlock = some g → v.ownBlock = some g ∨ wr.heap.size ≤ g) → (ys = [] → v' = v) → K (a.put o.dst v') w') :
    o.wp Tryz.prog a wr K Q := by
  obtain ⟨i0, hi, hz0, hz1, hz2⟩ := info_parts hinfo
  match hh : ys with
  | [] =>
    have e2 := hne rfl
    subst e2
    have hrun := run_append_owned_none (P := Tryz.prog) (w := wr) 0 t o.type e i0 n hu hi v xs.length _ hown
    unfold Oper.wp
    simp [execOp, ho, resolve, invoke, builtin, hs, hx, hrun, Result.andThen]
    exact h v wr (by rw [List.append_nil]; exact hown) (Keeps.refl _ _) (fun g hg => .inl hg) (fun _ => rfl)
  | y :: ys' =>
    obtain ⟨g, cap, e2, _, _⟩ := owG_some hys (by simp)
    subst e2
    obtain ⟨b, cap', w', hr, h2, h3, h4⟩ := run_app_stay (P := Tryz.prog) wr t o.type 0 e i0 z n bytes hu hi hz0 hz1 hz2 hzs hn0 v xs.length _ hown
      ⟨g, 0, none⟩ (y :: ys').length cap ((y :: ys').flatMap cs) (flat_len cs n hn _) (by
        intro j u hj
        rw [addr_add, Nat.zero_add]
        have hlt := (List.getElem?_eq_some_iff.1 hj).1
        rw [flat_len cs n hn] at hlt
        rw [World.ownsRow.cellAt hys j (by exact hlt)]
        exact hj) (by
        intro u hu
        obtain ⟨y, _, hy⟩ := List.mem_flatMap.1 hu
        exact h1 y u hy) (by simp) (by omega) hbytes (Nat.zero_le _)
    unfold Oper.wp execOp
    simp only [ho, resolve, invoke, builtin, Sem.run_bind, Sem.run_pure, Result.andThen_ok, List.map_toArray, List.map_cons, List.map_nil, hs, hx, hr]
    refine h _ w' ?_ ?_ (fun g hg => ?_) (fun e => by cases e)
    · have : (xs ++ y :: ys').length = xs.length + (y :: ys').length := by simp
      unfold OwG; rw [this, List.flatMap_append]; exact h2
    · rcases h3 with ⟨e1, k⟩ | ⟨e1, k⟩
      · exact ⟨k.os, k.tape, k.output, k.size, fun k' hk hne => k.block k' hk (fun e => hne e.symm)⟩
      · exact ⟨k.os, k.tape, k.output, k.size, fun k' hk hne => k.block k' hk (by simp)⟩
    · have e : b = g := Option.some.inj hg
      subst e
      rcases h3 with ⟨e1, k⟩ | ⟨e1, k⟩
      · exact .inl e1
      · exact .inr (by omega)
section
variable {w w' : World} {B bb : Nat} {l : BkL} {s : BkS}
theorem BkM.bel {D : Nat → Prop} (h : BkM w B bb l s) (k : Keeps D w w') (hD : ∀ g, D g → s.T g ≠ 0 ∨ w.heap.size ≤ g) : Below B w w' := by
  have hB : B ≤ w.heap.size := by
    have := h.tl bb (by rw [h.t2]; decide)
    omega
  exact k.below hB (fun g hg e => by
    rcases hD g e with e | e
    · have := (h.tl g e).1
      omega
    · omega)
/-- Arena and index alone are changed. -/
theorem BkM.ar (h : BkM w B bb l s) {S' : AS} {x' : XS} (hc : CH w' l.L l.Q S' l.X x') (k : Keeps (chF l.L l.X) w w') : BkM w' B bb l { s with S := S', x := x' } := by
  have o := h.but 1 (k.mono (fun g hg => h.t1 g hg))
  exact ⟨hc, o.b (by decide), o.i (by decide), o.r (by decide), o.k (by decide), o.z (by decide), fun j hj => o.v j hj (by omega), o.a (by decide), fun j q hq => ⟨(o.m j q hq).1 (by omega), (o.m j q hq).2.1 (by omega), (o.m j q hq).2.2 (by omega)⟩, h.t1, h.t2, h.t3, h.t4, h.t5, h.t6, h.t7, h.t8, h.t9, o.tl, o.pp (by decide), h.tp⟩
theorem BkM.same (h : BkM w B bb l s) (hc : CH w' l.L l.Q s.S l.X s.x) (k : Keeps (chF l.L l.X) w w') : BkM w' B bb l s := h.ar hc k
theorem BkM.c (h : BkM w B bb l s) (j : Nat) : w.cell? ⟨bb, j, none⟩ = (bkC l s)[j]? := cell?_heap h.b j
theorem BkM.fz (h : BkM w B bb l s) (j : Nat) : w.frozen? ⟨bb, j, none⟩ = false := frozen?_heap h.b j
end
theorem w64 (n : Int) : IntKind.i64.wrap n = wrap64 n := by rw [IntKind.wrap_i64]; unfold wrap64; rfl
theorem bk_accesses (w : World) (B bb : Nat) (l : BkL) (s : BkS) (h : BkM w B bb l s) : Calls Tryz.prog 37 #[.pointer (some ⟨bb, 0, none⟩)] w fun e w' => e = .returned (.int .i64 (wrap64 (s.S.acc + s.x.cn))) ∧ BkM w' B bb l s ∧ Below B w w' := by
  have H0 : Hid (BkM w.drew B bb l s ∧ Below B w w.drew) := ⟨h.drew, h.bel (D := fun _ => False) (Keeps.refl _ _).drew (fun _ e => e.elim)⟩
  have sx : w.drew.cell? ⟨bb, 0, none⟩ = some (.pointer (some ⟨l.L.b, 0, none⟩)) ∧ w.drew.cell? ⟨bb, 1, none⟩ = some (.pointer (some ⟨l.X.x, 0, none⟩)) := ⟨(H0.out.1.c 0).trans rfl, (H0.out.1.c 1).trans rfl⟩
  have HA : Hid (∀ _ : Unit, _) := fun _ => arn_accesses l.L s.S w.drew l.Q H0.out.1.ch.a
  clear h
  go_enter Tryz.func37, Tryz.ntmps37
  go_wp2_with fail
  (refine wp_region_held_drew (S := (fun Z => Z.cell? ⟨bb, 0, none⟩ = some (.pointer (some ⟨l.L.b, 0, none⟩)) ∧ Z.cell? ⟨bb, 1, none⟩ = some (.pointer (some ⟨l.X.x, 0, none⟩)))) (by kernel_rfl) sx (fun hHeld => ?_); simp only [List.size_toArray, List.length_cons, List.length_nil, Nat.reduceAdd, Array.replicate_succ, Array.replicate_zero, List.push_toArray, List.append_toArray, List.nil_append, List.cons_append])
  clear sx
  generalize w.drew = wd at *
  refine rgT 0 (h := ?_)
  refine rgT 1 (h := ?_)
  refine rgT 2 (h := ?_)
  refine rgT 3 (h := ?_)
  refine rgT 5 (h := ?_)
  refine rgT 6 (h := ?_)
  refine rgT 7 (h := ?_)
  refine rgT 8 (h := ?_)
  (refine rgS 4 (h := fun K hK => ?_); go_simp)
  refine (HA.out ()).mono ?_
  rintro e w1 ⟨rfl, ha, ka⟩
  have H1 : Hid (BkM w1 B bb l s ∧ Below B w w1) := ⟨H0.out.1.same (H0.out.1.ch.arn ha ka rfl) (ka.mono (fun g hg => .inl hg)), H0.out.2.trans (H0.out.1.bel ka (fun g hg => .inl (by rw [H0.out.1.t1 g (.inl hg)]; decide)))⟩
  have s1 : w1.cell? ⟨bb, 0, none⟩ = some (.pointer (some ⟨l.L.b, 0, none⟩)) ∧ w1.cell? ⟨bb, 1, none⟩ = some (.pointer (some ⟨l.X.x, 0, none⟩)) := ⟨(H1.out.1.c 0).trans rfl, (H1.out.1.c 1).trans rfl⟩
  have HX : Hid (∀ _ : Unit, _) := fun _ => ix_accesses w1 l.L.b l.X s.x H1.out.1.ch.i
  clear ha ka H0 HA
  (refine hK.out _ _ s1 (fun hHeld => ?_); clear hK K; try simp only [Act.put, List.setIfInBounds_toArray, List.set_cons_zero, List.set_cons_succ])
  (refine rgS 9 (h := fun K hK => ?_); go_simp)
  refine (HX.out ()).mono ?_
  rintro e w2 ⟨rfl, hw2⟩
  rw [hw2]
  clear hw2 w2 HX
  (refine hK.out _ _ s1 (fun hHeld => ?_); clear hK K; try simp only [Act.put, List.setIfInBounds_toArray, List.set_cons_zero, List.set_cons_succ])
  refine rgT 10 (h := ?_)
  refine rgT 11 (h := ?_)
  refine wpAnyH_done (by kernel_rfl) ?_ _
  clear hHeld s1
  rw [w64]
  go_wp2
  go_ret
  exact ⟨rfl, H1.out⟩
end Go.Proofs.YteekompojgbkhaaGreat

namespace Go.Proofs.YteekompojgbkhaaGreat
open Go.ChangeShapes Go.WideShapes Go.ChangeAt Go.RowKit Go.MuLone Go.RwLone
set_option linter.unusedVariables false
set_option maxRecDepth 100000
set_option maxHeartbeats 6400000
section
variable {w w' : World} {B bb : Nat} {l : BkL} {s : BkS}
theorem BkM.nch (h : BkM w B bb l s) (i : Nat) (q : OL) (hi : s.all[i]? = some q) : ¬ chF l.L l.X q.mb := fun e => by
  have a := h.t1 _ e
  have b := (h.t8 i q hi).1
  omega
end
/-- What is known of a machine's cells. -/
theorem BkM.cells {w : World} {B bb : Nat} {l : BkL} {s : BkS} {g m cap : Nat} (h : BkM w B bb l s) (hv : s.av = .slice (some ⟨g, 0, none⟩) m cap) (i : Nat) (q : OL) (hi : s.all[i]? = some q) (p : Nat) (hp : i * 12 = p) : ∀ j, j < 12 → w.cell? ⟨g, p + j, none⟩ = (olC q)[j]? := fun j hj => by
  rw [← hp]
  exact h.one hv i q hi j hj
/-- What an Insert's step leaves. -/
theorem BkM.stepI {w : World} {B bb : Nat} {l : BkL} {s : BkS} (h : BkM w B bb l s) (i : Nat) (q : OL) (hi : s.all[i]? = some q) (h0 : q.o.kd = 0) (s1 : BkS) (hs1 : s1 = { s with S := (insP s.S s.x q.o.mi).2.1.S, x := (insP s.S s.x q.o.mi).2.1.x, all := s.all.set i { q with o := { q.o with mi := (insP s.S s.x q.o.mi).2.2 } } }) (e : Ending) (w' : World) (hst : StpI w l.L l.Q l.X q.mb (insP s.S s.x q.o.mi) e w') : BkM w' B bb l s1 ∧ Below B w w' := by
  obtain ⟨_, k1, k2, k3⟩ := hst
  rw [hs1]
  refine ⟨h.mach i q hi k1 k3 { q.o with mi := (insP s.S s.x q.o.mi).2.2 } ⟨rfl, rfl, rfl, rfl, rfl, rfl⟩ ⟨fun _ => k2, fun e => by have e : q.o.kd = 1 := e; omega, fun e => by have e : q.o.kd = 2 := e; omega, Nat.lt_of_lt_of_le (h.m i q hi).1.2.2.2 k3.size⟩, h.bel k3 (fun g hg => .inl ?_)⟩
  rcases hg with e | e
  · rw [h.t1 g e]; decide
  · rw [e, (h.t8 i q hi).1]; omega
/-- An Insert's step that is no end, or one behind the end. -/
theorem bk_ins_w (w : World) (bb g p mb : Nat) (r dn : Bool) (hrd : r = dn) (R : World → Prop) (c2 : w.cell? ⟨g, p + 2, none⟩ = some (.pointer (some ⟨mb, 0, none⟩))) (HC : Calls Tryz.prog 73 #[.pointer (some ⟨mb, 0, none⟩)] w fun e w' => e = .returned (.bool r) ∧ R w') (HD : ∀ w', R w' → w'.cell? ⟨g, p + 5, none⟩ = some (.bool dn)) : Calls Tryz.prog 41 #[.pointer (some ⟨bb, 0, none⟩), .pointer (some ⟨g, p, none⟩)] w fun e w' => e = .returned (.bool true) ∧ R w' := by
  have HCC : Hid (∀ _ : Unit, _) := fun _ => HC
  have HDD : Hid (∀ w', R w' → w'.cell? ⟨g, p + 5, none⟩ = some (.bool dn)) := HD
  clear HC HD
  subst hrd
  cases r with
  | false =>
    go_enter Tryz.func41, Tryz.ntmps41
    go_wp2_with fail
    refine (HCC.out ()).mono ?_
    rintro e w1 ⟨rfl, h1⟩
    have d5 := HDD.out w1 h1
    have H1 : Hid (R w1) := h1
    clear h1 c2 HCC HDD
    go_wp2
    go_ret
    exact ⟨rfl, H1.out⟩
  | true =>
    go_enter Tryz.func41, Tryz.ntmps41
    go_wp2_with fail
    refine (HCC.out ()).mono ?_
    rintro e w1 ⟨rfl, h1⟩
    have d5 := HDD.out w1 h1
    have H1 : Hid (R w1) := h1
    clear h1 c2 HCC HDD
    go_wp2
    go_ret
    exact ⟨rfl, H1.out⟩
end Go.Proofs.YteekompojgbkhaaGreat

namespace Go.Proofs.YteekompojgbkhaaGreat
set_option linter.unusedSimpArgs false
open Go.ChangeShapes Go.WideShapes Go.ChangeAt Go.RowKit Go.MuLone Go.RwLone
set_option linter.unusedVariables false
set_option maxRecDepth 100000
set_option maxHeartbeats 6400000
/-- What is read of the book and of the machine in its row. -/
structure RdI (W : World) (l : BkL) (bb g p N nb mb sn : Nat) (ranks : Int) (j : Nat) : Prop where
  b3 : W.cell? ⟨bb, 3, none⟩ = some (.int .i64 (nb : Int))
  b4 : W.cell? ⟨bb, 4, none⟩ = some (.slice (some ⟨l.ib, 0, none⟩) (N + 1) l.ic)
  b5 : W.cell? ⟨bb, 5, none⟩ = some (.slice (some ⟨l.rb, 0, none⟩) (N + 1) l.rc)
  b6 : W.cell? ⟨bb, 6, none⟩ = some (.slice (some ⟨l.kb, 0, none⟩) (N + 1) l.kc)
  b7 : W.cell? ⟨bb, 7, none⟩ = some (.int .i64 ranks)
  b8 : W.cell? ⟨bb, 8, none⟩ = some (.slice (some ⟨l.wb, 0, none⟩) nb l.wc)
  g1 : W.cell? ⟨g, p + 1, none⟩ = some (.int .i64 (sn : Int))
  g2 : W.cell? ⟨g, p + j, none⟩ = some (.pointer (some ⟨mb, 0, none⟩))
  fb : ∀ i, W.frozen? ⟨bb, i, none⟩ = false
  fg : ∀ i, W.frozen? ⟨g, i, none⟩ = false
  fi : ∀ i, W.frozen? ⟨l.ib, i, none⟩ = false
  fr : ∀ i, W.frozen? ⟨l.rb, i, none⟩ = false
  fk : ∀ i, W.frozen? ⟨l.kb, i, none⟩ = false
  fw : ∀ i, W.frozen? ⟨l.wb, i, none⟩ = false
  ne : bb ≠ g ∧ bb ≠ l.ib ∧ bb ≠ l.rb ∧ bb ≠ l.kb ∧ bb ≠ l.wb ∧ g ≠ l.ib ∧ g ≠ l.rb ∧ g ≠ l.kb ∧ g ≠ l.wb
  ci : ∃ y, W.cell? ⟨l.ib, sn, none⟩ = some (.int .i64 y)
  cr : ∃ y, W.cell? ⟨l.rb, sn, none⟩ = some (.int .i64 y)
  ck : ∃ y, W.cell? ⟨l.kb, sn, none⟩ = some (.int .i64 y)
theorem RdI.drew {W : World} {l : BkL} {bb g p N nb mb sn j : Nat} {ranks : Int} (h : RdI W l bb g p N nb mb sn ranks j) : RdI W.drew l bb g p N nb mb sn ranks j := ⟨h.b3, h.b4, h.b5, h.b6, h.b7, h.b8, h.g1, h.g2, h.fb, h.fg, h.fi, h.fr, h.fk, h.fw, h.ne, h.ci, h.cr, h.ck⟩
theorem BkM.rd {W : World} {B bb : Nat} {l : BkL} {s : BkS} {g m cap : Nat} (h : BkM W B bb l s) (hv : s.av = .slice (some ⟨g, 0, none⟩) m cap) (i : Nat) (q : OL) (hi : s.all[i]? = some q) (p : Nat) (hp : i * 12 = p) (sn : Nat) (hs : q.o.sl = (sn : Int)) (hN : sn ≤ s.N) (j : Nat) (hj : j < 12) (hm : (olC q)[j]? = some (.pointer (some ⟨q.mb, 0, none⟩))) : RdI W l bb g p s.N s.nb q.mb sn s.ranks j := by
  have hc := h.cells hv i q hi p hp
  obtain ⟨g', cap', e1, e2, e3, e4, e5⟩ := h.ones i q hi
  have eg : g' = g := by
    rw [hv] at e1
    injection e1 with e1 _ _
    injection e1 with e1
    injection e1 with e1
    exact e1.symm
  subst eg
  have t3 := h.t3
  have t4 := h.t4
  have t5 := h.t5
  have t6 := h.t6
  have t2 := h.t2
  refine ⟨(h.c 3).trans rfl, (h.c 4).trans rfl, (h.c 5).trans rfl, (h.c 6).trans rfl, (h.c 7).trans rfl, (h.c 8).trans rfl, (hc 1 (by decide)).trans (by rw [← hs]; rfl), (hc j hj).trans hm, h.fz, e5, h.i.f, h.r.f, h.k.f, h.z.f, ⟨fun e => ?_, fun e => ?_, fun e => ?_, fun e => ?_, fun e => ?_, fun e => ?_, fun e => ?_, fun e => ?_, fun e => ?_⟩, ⟨_, h.i.c sn (by omega)⟩, ⟨_, h.r.c sn (by omega)⟩, ⟨_, h.k.c sn (by omega)⟩⟩
  · rw [e] at t2; omega
  · rw [e] at t2; omega
  · rw [e] at t2; omega
  · rw [e] at t2; omega
  · rw [e] at t2; omega
  · rw [e] at e4; omega
  · rw [e] at e4; omega
  · rw [e] at e4; omega
  · rw [e] at e4; omega
/-- An Insert's step that is its end. -/
theorem bk_ins_e (w : World) (l : BkL) (bb g p N nb mb sn k : Nat) (ranks : Int) (v : Value) (xs : List Int) (R1 R2 R3 R4 R5 R6 : World → Prop) (hk : ((sn : Int) % (nb : Int)) = (k : Int)) (k1 : k < nb) (n1 : nb ≤ 4096) (s1 : sn ≤ N) (N1 : N ≤ 4096) (r0 : 0 ≤ ranks) (r1 : ranks ≤ 4096) (hl : xs.length ≤ 4096)
    (c2 : w.cell? ⟨g, p + 2, none⟩ = some (.pointer (some ⟨mb, 0, none⟩))) (HC : Calls Tryz.prog 73 #[.pointer (some ⟨mb, 0, none⟩)] w fun e w' => e = .returned (.bool true) ∧ R1 w')
    (F1 : ∀ W, R1 W → RdI W l bb g p N nb mb sn ranks 2 ∧ W.cell? ⟨g, p + 5, none⟩ = some (.bool false) ∧ R2 (W.setCell ⟨g, p + 5, none⟩ (.bool true)))
    (F2 : ∀ W, R2 W → RdI W l bb g p N nb mb sn ranks 2 ∧ R3 (W.setCell ⟨l.ib, sn, none⟩ (.int .i64 2)).drew)
    (F3 : ∀ W, R3 W → RdI W l bb g p N nb mb sn ranks 2 ∧ R4 (W.setCell ⟨l.kb, sn, none⟩ (.int .i64 ranks)).drew)
    (F4 : ∀ W, R4 W → RdI W l bb g p N nb mb sn ranks 2 ∧ R5 ((W.setCell ⟨bb, 7, none⟩ (.int .i64 (ranks + 1))).alloc (.cells #[.int .i64 (sn : Int)] 3)) ∧ OwI ((W.setCell ⟨bb, 7, none⟩ (.int .i64 (ranks + 1))).alloc (.cells #[.int .i64 (sn : Int)] 3)) 0 (.slice (some ⟨W.heap.size, 0, none⟩) 1 1) [(sn : Int)])
    (F5 : ∀ W g9, R5 W → g9 + 1 = W.heap.size → RdI W l bb g p N nb mb sn (ranks + 1) 2 ∧ W.cell? ⟨l.wb, k, none⟩ = some v ∧ OwI W.drew 0 v xs ∧ (xs = [] → v = .slice none 0 0) ∧ ∀ v' w7, OwI w7 0 v' ((sn : Int) :: xs) → Keeps (fun k => k = g9) W.drew w7 → (∀ x, v'.ownBlock = some x → x = g9 ∨ W.heap.size ≤ x) → RdI w7 l bb g p N nb mb sn (ranks + 1) 2 ∧ w7.cell? ⟨l.wb, k, none⟩ = some v ∧ R6 (w7.setCell ⟨l.wb, k, none⟩ v'))
    (F6 : ∀ W, R6 W → RdI W l bb g p N nb mb sn (ranks + 1) 2 ∧ Calls Tryz.prog 74 #[.pointer (some ⟨mb, 0, none⟩)] W fun e w' => e = .returned (.int .i64 0) ∧ w' = W) :
    Calls Tryz.prog 41 #[.pointer (some ⟨bb, 0, none⟩), .pointer (some ⟨g, p, none⟩)] w fun e w' => e = .returned (.bool true) ∧ R6 w' := by
  have HCC : Hid (∀ _ : Unit, _) := fun _ => HC
  have HF1 : Hid (∀ _ : Unit, _) := fun _ => F1
  have HF2 : Hid (∀ _ : Unit, _) := fun _ => F2
  have HF3 : Hid (∀ _ : Unit, _) := fun _ => F3
  have HF4 : Hid (∀ _ : Unit, _) := fun _ => F4
  have HF5 : Hid (∀ _ : Unit, _) := fun _ => F5
  have HF6 : Hid (∀ _ : Unit, _) := fun _ => F6
  have HK : Hid (∀ _ : Unit, _) := fun _ => hk
  have q0 : (0 : Int) ≤ (sn : Int) := Int.natCast_nonneg _
  have q1 : (sn : Int) < ((N + 1 : Nat) : Int) := by omega
  have q2 : (0 : Int) ≤ (k : Int) := Int.natCast_nonneg _
  have q3 : (k : Int) < (nb : Int) := by omega
  clear HC F1 F2 F3 F4 F5 F6 hk
  go_enter Tryz.func41, Tryz.ntmps41
  go_wp2_with fail
  refine (HCC.out ()).mono ?_
  rintro e w1 ⟨rfl, h1⟩
  obtain ⟨r, d5, h2⟩ := HF1.out () w1 h1
  have hf5 := r.fg (p + 5)
  have hr2 := HF2.out () _ h2
  have e1 := hr2.1.g1
  have e3 := hr2.1.b3
  have HB : Hid (∀ _ : Unit, _) := fun _ => bk_bucketOf (w1.setCell ⟨g, p + 5, none⟩ (.bool true)) bb nb (sn : Int) e3 q0 (by omega) (by omega) n1
  rw [HK.out ()] at HB
  have H2 : Hid (R2 (w1.setCell ⟨g, p + 5, none⟩ (.bool true))) := h2
  clear h1 h2 r hr2 HCC HF1 c2
  go_wp2_with fail
  refine (HB.out ()).mono ?_
  rintro e w2 ⟨rfl, hw2⟩
  rw [hw2]
  clear hw2 w2 HB e1 e3 d5 hf5
  generalize w1.setCell ⟨g, p + 5, none⟩ (.bool true) = w2 at *
  obtain ⟨r2, h3⟩ := HF2.out () w2 H2.out
  have sx : w2.drew.cell? ⟨bb, 4, none⟩ = some (.slice (some ⟨l.ib, 0, none⟩) (N + 1) l.ic) ∧ w2.drew.cell? ⟨g, p + 1, none⟩ = some (.int .i64 (sn : Int)) := ⟨r2.b4, r2.g1⟩
  obtain ⟨y, hy⟩ := r2.ci
  have hy2 : w2.drew.cell? ⟨l.ib, sn, none⟩ = some (.int .i64 y) := hy
  have hyf : w2.drew.frozen? ⟨l.ib, sn, none⟩ = false := r2.fi sn
  have H3 : Hid (R3 (w2.setCell ⟨l.ib, sn, none⟩ (.int .i64 2)).drew) := h3
  obtain ⟨r3, h4⟩ := HF3.out () _ h3
  have s3 : (w2.setCell ⟨l.ib, sn, none⟩ (.int .i64 2)).drew.cell? ⟨bb, 4, none⟩ = some (.slice (some ⟨l.ib, 0, none⟩) (N + 1) l.ic) ∧ (w2.setCell ⟨l.ib, sn, none⟩ (.int .i64 2)).drew.cell? ⟨g, p + 1, none⟩ = some (.int .i64 (sn : Int)) := ⟨r3.b4, r3.g1⟩
  clear h3 h4 r2 r3 hy H2 HF2
  go_wp2_with fail
  (refine wp_region_held_drew (S := (fun Z => Z.cell? ⟨bb, 4, none⟩ = some (.slice (some ⟨l.ib, 0, none⟩) (N + 1) l.ic) ∧ Z.cell? ⟨g, p + 1, none⟩ = some (.int .i64 (sn : Int)))) (by kernel_rfl) sx (fun hHeld => ?_); simp only [List.size_toArray, List.length_cons, List.length_nil, Nat.reduceAdd, Array.replicate_succ, Array.replicate_zero, List.push_toArray, List.append_toArray, List.nil_append, List.cons_append])
  clear sx
  refine rgT 0 (h := ?_)
  refine rgT 1 (h := ?_)
  refine rgT 2 (h := ?_)
  refine rgT 3 (h := ?_)
  refine rgT 4 (h := ?_)
  refine rgT 5 (h := ?_)
  refine rgT 6 (h := ?_)
  refine rgT 7 (h := ?_)
  refine rgT 8 (h := ?_)
  (refine rgS 9 (h := fun K hK => ?_); go_simp)
  (refine hK.out _ _ s3 (fun hHeld => ?_); clear hK K; try simp only [Act.put, List.setIfInBounds_toArray, List.set_cons_zero, List.set_cons_succ])
  refine wpAnyH_done (by kernel_rfl) ?_ _
  clear hHeld s3 hy2 hyf
  generalize (w2.setCell ⟨l.ib, sn, none⟩ (.int .i64 2)).drew = w3 at *
  obtain ⟨r3, h4⟩ := HF3.out () w3 H3.out
  have sx : w3.drew.cell? ⟨bb, 6, none⟩ = some (.slice (some ⟨l.kb, 0, none⟩) (N + 1) l.kc) ∧ w3.drew.cell? ⟨g, p + 1, none⟩ = some (.int .i64 (sn : Int)) ∧ w3.drew.cell? ⟨bb, 7, none⟩ = some (.int .i64 ranks) := ⟨r3.b6, r3.g1, r3.b7⟩
  obtain ⟨y, hy⟩ := r3.ck
  have hy2 : w3.drew.cell? ⟨l.kb, sn, none⟩ = some (.int .i64 y) := hy
  have hyf : w3.drew.frozen? ⟨l.kb, sn, none⟩ = false := r3.fk sn
  have H4 : Hid (R4 (w3.setCell ⟨l.kb, sn, none⟩ (.int .i64 ranks)).drew) := h4
  obtain ⟨r4, h5, h5b⟩ := HF4.out () _ h4
  have s4 : (w3.setCell ⟨l.kb, sn, none⟩ (.int .i64 ranks)).drew.cell? ⟨bb, 6, none⟩ = some (.slice (some ⟨l.kb, 0, none⟩) (N + 1) l.kc) ∧ (w3.setCell ⟨l.kb, sn, none⟩ (.int .i64 ranks)).drew.cell? ⟨g, p + 1, none⟩ = some (.int .i64 (sn : Int)) ∧ (w3.setCell ⟨l.kb, sn, none⟩ (.int .i64 ranks)).drew.cell? ⟨bb, 7, none⟩ = some (.int .i64 ranks) := ⟨r4.b6, r4.g1, r4.b7⟩
  clear h4 h5 h5b r3 r4 hy H3 HF3
  go_wp2_with fail
  (refine wp_region_held_drew (S := (fun Z => Z.cell? ⟨bb, 6, none⟩ = some (.slice (some ⟨l.kb, 0, none⟩) (N + 1) l.kc) ∧ Z.cell? ⟨g, p + 1, none⟩ = some (.int .i64 (sn : Int)) ∧ Z.cell? ⟨bb, 7, none⟩ = some (.int .i64 ranks))) (by kernel_rfl) sx (fun hHeld => ?_); simp only [List.size_toArray, List.length_cons, List.length_nil, Nat.reduceAdd, Array.replicate_succ, Array.replicate_zero, List.push_toArray, List.append_toArray, List.nil_append, List.cons_append])
  clear sx
  refine rgT 0 (h := ?_)
  refine rgT 1 (h := ?_)
  refine rgT 2 (h := ?_)
  refine rgT 3 (h := ?_)
  refine rgT 4 (h := ?_)
  refine rgT 5 (h := ?_)
  refine rgT 6 (h := ?_)
  refine rgT 7 (h := ?_)
  refine rgT 8 (h := ?_)
  refine rgT 9 (h := ?_)
  refine rgT 10 (h := ?_)
  refine rgT 11 (h := ?_)
  refine rgT 12 (h := ?_)
  (refine rgS 13 (h := fun K hK => ?_); go_simp)
  (refine hK.out _ _ s4 (fun hHeld => ?_); clear hK K; try simp only [Act.put, List.setIfInBounds_toArray, List.set_cons_zero, List.set_cons_succ])
  refine wpAnyH_done (by kernel_rfl) ?_ _
  clear hHeld s4 hy2 hyf
  generalize (w3.setCell ⟨l.kb, sn, none⟩ (.int .i64 ranks)).drew = w4 at *
  obtain ⟨r4, h5, ho5⟩ := HF4.out () w4 H4.out
  obtain ⟨G, hG⟩ : ∃ G, w4.heap.size = G := ⟨_, rfl⟩
  rw [hG] at ho5
  have e7 := r4.b7
  have f7 := r4.fb 7
  have e1 : (w4.setCell ⟨bb, 7, none⟩ (.int .i64 (ranks + 1))).cell? ⟨g, p + 1, none⟩ = some (.int .i64 (sn : Int)) := by
    rw [World.cell?_setCell_other _ _ _ _ (fun e => r4.ne.1 (congrArg Addr.block e))]
    exact r4.g1
  have hG5 : G + 1 = ((w4.setCell ⟨bb, 7, none⟩ (.int .i64 (ranks + 1))).alloc (.cells #[.int .i64 (sn : Int)] 3)).heap.size := by
    simp
    omega
  have H5 : Hid (R5 ((w4.setCell ⟨bb, 7, none⟩ (.int .i64 (ranks + 1))).alloc (.cells #[.int .i64 (sn : Int)] 3)) ∧ OwI ((w4.setCell ⟨bb, 7, none⟩ (.int .i64 (ranks + 1))).alloc (.cells #[.int .i64 (sn : Int)] 3)) 0 (.slice (some ⟨G, 0, none⟩) 1 1) [(sn : Int)] ∧ G + 1 = ((w4.setCell ⟨bb, 7, none⟩ (.int .i64 (ranks + 1))).alloc (.cells #[.int .i64 (sn : Int)] 3)).heap.size) := ⟨h5, ho5, hG5⟩
  clear h5 ho5 r4 H4 HF4 hG5
  go_wp2_with fail
  generalize (w4.setCell ⟨bb, 7, none⟩ (.int .i64 (ranks + 1))).alloc (.cells #[.int .i64 (sn : Int)] 3) = w5 at *
  clear e7 f7 e1 hG
  obtain ⟨r5, d5, o5, n5, F5⟩ := HF5.out () w5 G H5.out.1 H5.out.2.2
  have HO : Hid (OwI w5.drew 0 (.slice (some ⟨G, 0, none⟩) 1 1) [(sn : Int)]) := owK H5.out.2.1 (Keeps.refl (fun _ => False) _).drew (fun _ _ e => e)
  have HV : Hid (OwI w5.drew 0 v xs ∧ (xs = [] → v = .slice none 0 0)) := ⟨o5, n5⟩
  have H9 : Hid (∀ _ : Unit, _) := fun _ => F5
  have sx : w5.drew.cell? ⟨bb, 8, none⟩ = some (.slice (some ⟨l.wb, 0, none⟩) nb l.wc) := r5.b8
  have dx : w5.drew.cell? ⟨l.wb, k, none⟩ = some v := d5
  clear r5 d5 o5 n5 F5 HF5
  (refine wp_region_held_drew (S := (fun Z => Z.cell? ⟨bb, 8, none⟩ = some (.slice (some ⟨l.wb, 0, none⟩) nb l.wc))) (by kernel_rfl) sx (fun hHeld => ?_); simp only [List.size_toArray, List.length_cons, List.length_nil, Nat.reduceAdd, Array.replicate_succ, Array.replicate_zero, List.push_toArray, List.append_toArray, List.nil_append, List.cons_append])
  clear sx
  refine rgT 0 (h := ?_)
  refine rgT 1 (h := ?_)
  refine rgT 2 (h := ?_)
  refine rgT 3 (h := ?_)
  refine rgT 4 (h := ?_)
  refine rgT 5 (h := ?_)
  refine rgT 6 (h := ?_)
  refine rgT 7 (h := ?_)
  refine rgT 8 (h := ?_)
  refine rgT 9 (h := ?_)
  refine rgT 10 (h := ?_)
  refine rgT 11 (h := ?_)
  (refine rgS 12 (h := fun K hK => ?_); go_simp)
  (refine hK.out _ _ hHeld (fun hHeld => ?_); clear hK K; try simp only [Act.put, List.setIfInBounds_toArray, List.set_cons_zero, List.set_cons_succ])
  (refine rgS 13 (h := fun K hK => ?_); rw [if_pos (by rfl)])
  refine app_list_wp (cs := inZ) _ _ 31 3 (by rfl) Tryz.underlying31 infoZ rfl (by decide) (fun _ => rfl) _ [(sn : Int)] xs HO.out (by rfl) 0 v HV.out.1 HV.out.2 (by rfl) inZ_one (by unfold maxLen; simp; omega) (by simp; omega) ?_
  intro v' w7 ho7 kk7 hv7 hn7
  have kk8 : Keeps (fun k => k = G) w5.drew w7 := kk7.mono (fun x e => (Option.some.inj e).symm)
  obtain ⟨a7, c7, e7⟩ := OwG.form ho7
  obtain ⟨n7, hn7b⟩ : ∃ n, ([(sn : Int)] ++ xs).length = n := ⟨_, rfl⟩
  rw [hn7b] at e7
  clear hn7b
  subst e7
  obtain ⟨r7, d7, h8⟩ := H9.out () (.slice a7 n7 c7) w7 ho7 kk8 (fun x hx => (hv7 x hx).imp (fun e => (Option.some.inj e).symm) id)
  have s7 := r7.b8
  have f7 := r7.fw k
  obtain ⟨r8, HCo⟩ := HF6.out () _ h8
  have s8 := r8.b8
  have H8 : Hid (R6 (w7.setCell ⟨l.wb, k, none⟩ (.slice a7 n7 c7))) := h8
  have e2 := r8.g2
  have HCoo : Hid (∀ _ : Unit, _) := fun _ => HCo
  clear r7 r8 h8 ho7 kk7 hv7 hn7 kk8 H9 HF6 HO HV H5 dx HCo
  (refine hK.out _ _ s7 (fun hHeld => ?_); clear hK K; try simp only [Act.put, List.setIfInBounds_toArray, List.set_cons_zero, List.set_cons_succ])
  refine rgT 14 (h := ?_)
  (refine rgS 15 (h := fun K hK => ?_); go_simp)
  (refine hK.out _ _ s8 (fun hHeld => ?_); clear hK K; try simp only [Act.put, List.setIfInBounds_toArray, List.set_cons_zero, List.set_cons_succ])
  refine wpAnyH_done (by kernel_rfl) ?_ _
  clear hHeld s7 s8 d7 f7
  generalize w7.setCell ⟨l.wb, k, none⟩ (.slice a7 n7 c7) = w8 at *
  go_wp2_with fail
  refine (HCoo.out ()).mono ?_
  rintro e w9 ⟨rfl, hw9⟩
  rw [hw9]
  clear hw9 w9 HCoo
  go_wp2_with fail
  refine (bk_num 0 w8).mono ?_
  rintro e w9 ⟨rfl, hw9⟩
  rw [hw9]
  clear hw9 w9
  go_wp2
  go_ret
  exact ⟨rfl, H8.out⟩
end Go.Proofs.YteekompojgbkhaaGreat
