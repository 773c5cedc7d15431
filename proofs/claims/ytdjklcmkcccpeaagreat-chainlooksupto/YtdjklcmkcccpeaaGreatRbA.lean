import Derived.Test.YtdjklcmkcccpeaaGreatRaB
import Derived.Test.YtdjklcmkcccpeaaGreatChH
namespace Go.Proofs.YtdjklcmkcccpeaaGreat
open Go.ChangeShapes Go.WideShapes Go.ChangeAt Go.RowKit Go.MuLone Go.RwLone
set_option linter.unusedVariables false
set_option maxRecDepth 100000
set_option maxHeartbeats 3200000
/-- The document's index. -/
structure RxH (w : World) (ab : Nat) (X : XL) (hc : Nat) (x : XS) : Prop where
  c0 : w.cell? ⟨X.x, 0, none⟩ = some (.pointer (some ⟨ab, 0, none⟩))
  c1 : w.cell? ⟨X.x, 1, none⟩ = some (.int .i64 (x.cell : Int))
  c2 : w.cell? ⟨X.x, 2, none⟩ = some (.slice (some ⟨X.h, 0, none⟩) x.nb hc)
  c3 : w.cell? ⟨X.x, 3, none⟩ = some (.int .i64 x.cn)
  hd : ∀ b, b < x.nb → w.cell? ⟨X.h, b, none⟩ = some (.int .u64 (x.hd b))
  f : ∀ g j, X.has g → w.frozen? ⟨g, j, none⟩ = false
  lx : X.x < w.heap.size
  lh : X.h < w.heap.size
  ne : X.x ≠ X.h
  nb : 1 ≤ x.nb ∧ x.nb ≤ 256
theorem RxH.keeps {w w' : World} {ab : Nat} {X : XL} {hc : Nat} {x : XS} {D : Nat → Prop} (h : RxH w ab X hc x) (k : Keeps D w w') (hn : ∀ g, X.has g → ¬ D g) : RxH w' ab X hc x := by
  have e1 : ∀ j, w'.cell? ⟨X.x, j, none⟩ = w.cell? ⟨X.x, j, none⟩ := fun j => k.cell (p := ⟨X.x, j, none⟩) h.lx (hn _ (.inl rfl))
  have e2 : ∀ j, w'.cell? ⟨X.h, j, none⟩ = w.cell? ⟨X.h, j, none⟩ := fun j => k.cell (p := ⟨X.h, j, none⟩) h.lh (hn _ (.inr rfl))
  refine ⟨(e1 0).trans h.c0, (e1 1).trans h.c1, (e1 2).trans h.c2, (e1 3).trans h.c3, fun b hb => (e2 b).trans (h.hd b hb), fun g j hg => ?_, Nat.lt_of_lt_of_le h.lx k.size, Nat.lt_of_lt_of_le h.lh k.size, h.ne, h.nb⟩
  rcases hg with rfl | rfl
  · exact (World.frozen?_of_block (w := w) (a := ⟨X.x, j, none⟩) (k.block X.x h.lx (hn _ (.inl rfl)))).trans (h.f _ j (.inl rfl))
  · exact (World.frozen?_of_block (w := w) (a := ⟨X.h, j, none⟩) (k.block X.h h.lh (hn _ (.inr rfl)))).trans (h.f _ j (.inr rfl))
theorem RxH.setCn {w : World} {ab : Nat} {X : XL} {hc : Nat} {x : XS} (h : RxH w ab X hc x) (v : Int) : RxH (w.setCell ⟨X.x, 3, none⟩ (.int .i64 v)) ab X hc { x with cn := v } := by
  have o : ∀ j, j ≠ 3 → (w.setCell ⟨X.x, 3, none⟩ (.int .i64 v)).cell? ⟨X.x, j, none⟩ = w.cell? ⟨X.x, j, none⟩ := fun j hj => World.cell?_setCell_other _ _ _ _ (fun e => hj (congrArg Addr.off e).symm)
  have o2 : ∀ j, (w.setCell ⟨X.x, 3, none⟩ (.int .i64 v)).cell? ⟨X.h, j, none⟩ = w.cell? ⟨X.h, j, none⟩ := fun j => World.cell?_setCell_other _ _ _ _ (fun e => h.ne (congrArg Addr.block e))
  exact ⟨(o 0 (by decide)).trans h.c0, (o 1 (by decide)).trans h.c1, (o 2 (by decide)).trans h.c2, World.cell?_setCell_same _ _ _ h.c3, fun b hb => (o2 b).trans (h.hd b hb), fun g j hg => by simpa using h.f g j hg, by simpa using h.lx, by simpa using h.lh, h.ne, h.nb⟩
theorem RxH.setHd {w : World} {ab : Nat} {X : XL} {hc : Nat} {x : XS} (h : RxH w ab X hc x) (b : Nat) (hb : b < x.nb) (v : Int) : RxH (w.setCell ⟨X.h, b, none⟩ (.int .u64 v)) ab X hc { x with hd := upd x.hd b v } := by
  have o : ∀ j, (w.setCell ⟨X.h, b, none⟩ (.int .u64 v)).cell? ⟨X.x, j, none⟩ = w.cell? ⟨X.x, j, none⟩ := fun j => World.cell?_setCell_other _ _ _ _ (fun e => h.ne (congrArg Addr.block e).symm)
  refine ⟨(o 0).trans h.c0, (o 1).trans h.c1, (o 2).trans h.c2, (o 3).trans h.c3, fun i hi => ?_, fun g j hg => by simpa using h.f g j hg, by simpa using h.lx, by simpa using h.lh, h.ne, h.nb⟩
  by_cases e : i = b
  · subst e
    show _ = some (Value.int _ (upd x.hd i v i))
    rw [upd_same]
    exact World.cell?_setCell_same _ _ _ (h.hd i hb)
  · show _ = some (Value.int _ (upd x.hd b v i))
    rw [upd_other _ _ e, World.cell?_setCell_other _ _ _ _ (fun e' => e (congrArg Addr.off e').symm)]
    exact h.hd i hi
theorem rx_has (w : World) (ab : Nat) (X : XL) (hc : Nat) (x : XS) (b : Int) (h : RxH w ab X hc x) : Calls Tryz.prog 190 #[.pointer (some ⟨X.x, 0, none⟩), .int .i64 b] w fun e w' => e = .returned (.bool (inB x b)) ∧ w' = w := by
  have c2 := h.c2
  clear h
  by_cases h0 : 0 ≤ b
  · by_cases h1 : b < (x.nb : Int)
    · have e : inB x b = true := by unfold inB; rw [decide_eq_true h0, decide_eq_true h1]; rfl
      rw [e]
      clear e
      go_enter Tryz.func190, Tryz.ntmps190
      go_wp2
      go_ret
      exact ⟨rfl, rfl⟩
    · have e : inB x b = false := by unfold inB; rw [decide_eq_true h0, decide_eq_false h1]; rfl
      rw [e]
      clear e
      go_enter Tryz.func190, Tryz.ntmps190
      go_wp2
      go_ret
      exact ⟨rfl, rfl⟩
  · have e : inB x b = false := by unfold inB; rw [decide_eq_false h0]; rfl
    rw [e]
    clear e
    go_enter Tryz.func190, Tryz.ntmps190
    go_wp2
    go_ret
    exact ⟨rfl, rfl⟩
theorem rx_loaded (w : World) (ab : Nat) (X : XL) (hc : Nat) (x : XS) (b : Nat) (hb : b < x.nb) (h : RxH w ab X hc x) : Calls Tryz.prog 193 #[.pointer (some ⟨X.x, 0, none⟩), .int .i64 (b : Int)] w fun e w' => e = .returned (.int .u64 (x.hd b)) ∧ RxH w' ab X hc x.cn1 ∧ Keeps X.has w w' := by
  have c3 := h.c3
  have f3 := h.f X.x 3 (.inl rfl)
  have hz := h.nb.2
  have H1 : Hid (RxH (w.setCell ⟨X.x, 3, none⟩ (.int .i64 (wrap64 (x.cn + 1)))) ab X hc x.cn1 ∧ Keeps X.has w (w.setCell ⟨X.x, 3, none⟩ (.int .i64 (wrap64 (x.cn + 1))))) := ⟨h.setCn _, setB.mono (fun _ e => .inl e)⟩
  have c2 : (w.setCell ⟨X.x, 3, none⟩ (.int .i64 (wrap64 (x.cn + 1)))).cell? ⟨X.x, 2, none⟩ = some (.slice (some ⟨X.h, 0, none⟩) x.nb hc) := H1.out.1.c2
  have b0 : (0 : Int) ≤ (b : Int) := Int.natCast_nonneg _
  have b1 : (b : Int) < (x.nb : Int) := by omega
  have fh := H1.out.1.f X.h b (.inr rfl)
  have hd : (w.setCell ⟨X.x, 3, none⟩ (.int .i64 (wrap64 (x.cn + 1)))).cell? ⟨X.h, b, none⟩ = some (.int .u64 (x.hd b)) := H1.out.1.hd b hb
  clear h
  go_enter Tryz.func193, Tryz.ntmps193
  go_wp2
  go_ret
  exact ⟨rfl, H1.out⟩
theorem rx_swap_hit (w : World) (ab : Nat) (X : XL) (hc : Nat) (x : XS) (b : Nat) (hb : b < x.nb) (u y : Int) (h : RxH w ab X hc x) (hu : x.hd b = u) : Calls Tryz.prog 195 #[.pointer (some ⟨X.x, 0, none⟩), .int .i64 (b : Int), .int .u64 u, .int .u64 y] w fun e w' => e = .returned (.bool true) ∧ RxH w' ab X hc { x.cn1 with hd := upd x.hd b y } ∧ Keeps X.has w w' := by
  have c3 := h.c3
  have f3 := h.f X.x 3 (.inl rfl)
  have hz := h.nb.2
  have H1 : Hid (RxH (w.setCell ⟨X.x, 3, none⟩ (.int .i64 (wrap64 (x.cn + 1)))) ab X hc x.cn1 ∧ Keeps X.has w (w.setCell ⟨X.x, 3, none⟩ (.int .i64 (wrap64 (x.cn + 1))))) := ⟨h.setCn _, setB.mono (fun _ e => .inl e)⟩
  have c2 : (w.setCell ⟨X.x, 3, none⟩ (.int .i64 (wrap64 (x.cn + 1)))).cell? ⟨X.x, 2, none⟩ = some (.slice (some ⟨X.h, 0, none⟩) x.nb hc) := H1.out.1.c2
  have b0 : (0 : Int) ≤ (b : Int) := Int.natCast_nonneg _
  have b1 : (b : Int) < (x.nb : Int) := by omega
  have fh := H1.out.1.f X.h b (.inr rfl)
  have hd : (w.setCell ⟨X.x, 3, none⟩ (.int .i64 (wrap64 (x.cn + 1)))).cell? ⟨X.h, b, none⟩ = some (.int .u64 u) := by rw [← hu]; exact H1.out.1.hd b hb
  have H2 : Hid (RxH ((w.setCell ⟨X.x, 3, none⟩ (.int .i64 (wrap64 (x.cn + 1)))).setCell ⟨X.h, b, none⟩ (.int .u64 y)) ab X hc { x.cn1 with hd := upd x.hd b y } ∧ Keeps X.has w ((w.setCell ⟨X.x, 3, none⟩ (.int .i64 (wrap64 (x.cn + 1)))).setCell ⟨X.h, b, none⟩ (.int .u64 y))) := ⟨H1.out.1.setHd b hb y, H1.out.2.trans (setB.mono (fun _ e => .inr e))⟩
  clear h H1 hu
  go_enter Tryz.func195, Tryz.ntmps195
  go_wp2
  go_ret
  exact ⟨rfl, H2.out⟩
theorem rx_swap_miss (w : World) (ab : Nat) (X : XL) (hc : Nat) (x : XS) (b : Nat) (hb : b < x.nb) (u y : Int) (h : RxH w ab X hc x) (hu : ¬ x.hd b = u) : Calls Tryz.prog 195 #[.pointer (some ⟨X.x, 0, none⟩), .int .i64 (b : Int), .int .u64 u, .int .u64 y] w fun e w' => e = .returned (.bool false) ∧ RxH w' ab X hc x.cn1 ∧ Keeps X.has w w' := by
  have c3 := h.c3
  have f3 := h.f X.x 3 (.inl rfl)
  have hz := h.nb.2
  have H1 : Hid (RxH (w.setCell ⟨X.x, 3, none⟩ (.int .i64 (wrap64 (x.cn + 1)))) ab X hc x.cn1 ∧ Keeps X.has w (w.setCell ⟨X.x, 3, none⟩ (.int .i64 (wrap64 (x.cn + 1))))) := ⟨h.setCn _, setB.mono (fun _ e => .inl e)⟩
  have c2 : (w.setCell ⟨X.x, 3, none⟩ (.int .i64 (wrap64 (x.cn + 1)))).cell? ⟨X.x, 2, none⟩ = some (.slice (some ⟨X.h, 0, none⟩) x.nb hc) := H1.out.1.c2
  have b0 : (0 : Int) ≤ (b : Int) := Int.natCast_nonneg _
  have b1 : (b : Int) < (x.nb : Int) := by omega
  have fh := H1.out.1.f X.h b (.inr rfl)
  have hd : (w.setCell ⟨X.x, 3, none⟩ (.int .i64 (wrap64 (x.cn + 1)))).cell? ⟨X.h, b, none⟩ = some (.int .u64 (x.hd b)) := H1.out.1.hd b hb
  generalize x.hd b = v at *
  have hu2 : (v != u) = true := by simp [hu]
  clear h
  go_enter Tryz.func195, Tryz.ntmps195
  go_wp2
  go_ret
  exact ⟨rfl, H1.out⟩
theorem rnumber_any (v : Int) (w : World) (h : LkOk v) : Calls Tryz.prog 198 #[.int .u64 v] w fun e w' => e = .returned (.int .i64 (v / 2)) ∧ w' = w := by
  have hl := of18 v w h.1 (by have := h.2; omega)
  have e : ofLinkV v = (v / 2, v % 2 == 1, 0) := by unfold ofLinkV; rw [if_pos (by have := h.2; omega)]
  rw [e] at hl
  have HL : Hid (∀ _ : Unit, _) := fun _ => hl
  obtain ⟨a, ha⟩ : ∃ a, v / 2 = a := ⟨_, rfl⟩
  obtain ⟨b, hb⟩ : ∃ b, (v % 2 == 1) = b := ⟨_, rfl⟩
  rw [ha, hb] at HL
  rw [ha]
  clear hl e ha hb
  go_enter Tryz.func198, Tryz.ntmps198
  go_wp2_with fail
  refine (HL.out ()).mono ?_
  rintro e w' ⟨rfl, rfl⟩
  go_wp2
  go_ret
  exact ⟨rfl, rfl⟩
theorem rmarked_any (v : Int) (w : World) (h : LkOk v) : Calls Tryz.prog 199 #[.int .u64 v] w fun e w' => e = .returned (.bool (v % 2 == 1)) ∧ w' = w := by
  have hl := of18 v w h.1 (by have := h.2; omega)
  have e : ofLinkV v = (v / 2, v % 2 == 1, 0) := by unfold ofLinkV; rw [if_pos (by have := h.2; omega)]
  rw [e] at hl
  have HL : Hid (∀ _ : Unit, _) := fun _ => hl
  obtain ⟨a, ha⟩ : ∃ a, v / 2 = a := ⟨_, rfl⟩
  obtain ⟨b, hb⟩ : ∃ b, (v % 2 == 1) = b := ⟨_, rfl⟩
  rw [ha, hb] at HL
  rw [hb]
  clear hl e ha hb
  go_enter Tryz.func199, Tryz.ntmps199
  go_wp2_with fail
  refine (HL.out ()).mono ?_
  rintro e w' ⟨rfl, rfl⟩
  go_wp2
  go_ret
  exact ⟨rfl, rfl⟩
theorem rword_any (n : Int) (w : World) (h0 : 0 ≤ n) (h1 : n ≤ 2147483647) : Calls Tryz.prog 146 #[.int .i64 n] w fun e w' => e = .returned (.int .u64 (2 * n)) ∧ w' = w := by
  have hl := link17 n false w (by omega) (by omega)
  have e : linkV n false = (2 * n, 0) := by unfold linkV; rw [if_pos ⟨h0, h1⟩]; simp
  rw [e] at hl
  have HL : Hid (∀ _ : Unit, _) := fun _ => hl
  clear hl e
  go_enter Tryz.func146, Tryz.ntmps146
  go_wp2_with fail
  refine (HL.out ()).mono ?_
  rintro e w' ⟨rfl, rfl⟩
  go_wp2
  go_ret
  exact ⟨rfl, rfl⟩
theorem rend_any (n : Int) (w : World) : Calls Tryz.prog 222 #[.int .i64 n] w fun e w' => e = .returned (.bool (decide (4096 < n))) ∧ w' = w := by
  go_enter Tryz.func222, Tryz.ntmps222
  go_wp2
  go_ret
  exact ⟨rfl, rfl⟩
/-- The document's arena and an index over it. -/
structure RC (w : World) (R : RL) (cap : Nat) (qv : Value) (Q : List Nat) (S : AS) (X : XL) (hc : Nat) (x : XS) : Prop where
  a : RAr w R cap qv Q S
  i : RxH w R.b X hc x
  d : ∀ g, X.has g → ¬ raF R qv S g
  c : x.cell < S.wd
def rcF (R : RL) (qv : Value) (S : AS) (X : XL) (g : Nat) : Prop := raF R qv S g ∨ X.has g
theorem RC.keeps {w w' : World} {R : RL} {cap : Nat} {qv : Value} {Q : List Nat} {S : AS} {X : XL} {hc : Nat} {x : XS} {D : Nat → Prop} (h : RC w R cap qv Q S X hc x) (k : Keeps D w w') (hn : ∀ g, rcF R qv S X g → ¬ D g) : RC w' R cap qv Q S X hc x :=
  ⟨h.a.keeps k (fun g hg => hn g (.inl hg)), h.i.keeps k (fun g hg => hn g (.inr hg)), h.d, h.c⟩
theorem RC.arn {w w' : World} {R : RL} {cap : Nat} {qv : Value} {Q : List Nat} {S S' : AS} {X : XL} {hc : Nat} {x : XS} (h : RC w R cap qv Q S X hc x) (ha : RAr w' R cap qv Q S') (k : Keeps (raF R qv S) w w') (hw : S'.wd = S.wd) (hs : ∀ g, raF R qv S' g → raF R qv S g) : RC w' R cap qv Q S' X hc x :=
  ⟨ha, h.i.keeps k (fun g hg => h.d g hg), fun g hg e => h.d g hg (hs g e), by rw [hw]; exact h.c⟩
theorem RC.ix {w w' : World} {R : RL} {cap : Nat} {qv : Value} {Q : List Nat} {S : AS} {X : XL} {hc : Nat} {x x' : XS} (h : RC w R cap qv Q S X hc x) (hx : RxH w' R.b X hc x') (k : Keeps X.has w w') (hcl : x'.cell = x.cell) : RC w' R cap qv Q S X hc x' :=
  ⟨h.a.keeps k (fun g hg e => h.d g e hg), hx, h.d, by rw [hcl]; exact h.c⟩
/-- The document's machine in its block, and the others. -/
structure RM (w : World) (R : RL) (cap : Nat) (qv : Value) (Q : List Nat) (S : AS) (X : XL) (hc : Nat) (x : XS) (mb : Nat) (c : Array Value) (t : TypeId) : Prop where
  h : RC w R cap qv Q S X hc x
  m : w.heap[mb]? = some (.cells c t)
  n : ¬ rcF R qv S X mb
section
variable {w w' : World} {R : RL} {cap : Nat} {qv : Value} {Q : List Nat} {S S' : AS} {X : XL} {hc : Nat} {x x' : XS} {mb : Nat} {c c' : Array Value} {t : TypeId}
theorem RM.cell (h : RM w R cap qv Q S X hc x mb c t) (j : Nat) : w.cell? ⟨mb, j, none⟩ = c[j]? := cell?_heap h.m j
theorem RM.fz (h : RM w R cap qv Q S X hc x mb c t) (j : Nat) : w.frozen? ⟨mb, j, none⟩ = false := frozen?_heap h.m j
/-- A call of the arena. -/
theorem RM.callA (h : RM w R cap qv Q S X hc x mb c t) (ha : RAr w' R cap qv Q S') (k : Keeps (raF R qv S) w w') (hw : S'.wd = S.wd) (hs : ∀ g, raF R qv S' g → raF R qv S g) : RM w' R cap qv Q S' X hc x mb c t := ⟨h.h.arn ha k hw hs, (k.block mb (Array.getElem?_eq_some_iff.1 h.m).1 (fun e => h.n (.inl e))).trans h.m, fun e => h.n (e.elim (fun e => .inl (hs _ e)) .inr)⟩
/-- A call of the index. -/
theorem RM.callX (h : RM w R cap qv Q S X hc x mb c t) (hx : RxH w' R.b X hc x') (k : Keeps X.has w w') (hcl : x'.cell = x.cell) : RM w' R cap qv Q S X hc x' mb c t := ⟨h.h.ix hx k hcl, (k.block mb (Array.getElem?_eq_some_iff.1 h.m).1 (fun e => h.n (.inr e))).trans h.m, h.n⟩
theorem RM.own (h : RM w R cap qv Q S X hc x mb c t) (hm : w'.heap[mb]? = some (.cells c' t)) (k : Keeps (fun g => g = mb) w w') : RM w' R cap qv Q S X hc x mb c' t := ⟨h.h.keeps k (fun g hg e => h.n (by rw [← e]; exact hg)), hm, h.n⟩
theorem RM.set (h : RM w R cap qv Q S X hc x mb c t) (j : Nat) (v : Value) : RM (w.setCell ⟨mb, j, none⟩ v) R cap qv Q S X hc x mb (c.setIfInBounds j v) t ∧ Keeps (fun g => g = mb) w (w.setCell ⟨mb, j, none⟩ v) := ⟨h.own (heapSetC h.m j v) setB, setB⟩
end
abbrev mrF (R : RL) (qv : Value) (S : AS) (X : XL) (mb g : Nat) : Prop := rcF R qv S X g ∨ g = mb
theorem rA {w w' : World} {R : RL} {qv : Value} {S : AS} {X : XL} {mb : Nat} (k : Keeps (raF R qv S) w w') : Keeps (mrF R qv S X mb) w w' := k.mono (fun _ e => .inl (.inl e))
theorem rX {w w' : World} {R : RL} {qv : Value} {S : AS} {X : XL} {mb : Nat} (k : Keeps X.has w w') : Keeps (mrF R qv S X mb) w w' := k.mono (fun _ e => .inl (.inr e))
theorem rM {w w' : World} {R : RL} {qv : Value} {S : AS} {X : XL} {mb : Nat} (k : Keeps (fun g => g = mb) w w') : Keeps (mrF R qv S X mb) w w' := k.mono (fun _ e => .inr e)
end Go.Proofs.YtdjklcmkcccpeaaGreat
