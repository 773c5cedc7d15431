import Derived.Deep.RegionHeld3
import Derived.WalkKit
import Derived.Test.YteekompojgbkhaaGreatKWords
import Derived.Test.YteekompojgbkhaaGreatKOwnIE
namespace Go.Proofs.YteekompojgbkhaaGreat
theorem rgO {ops : Array Oper} {i : Nat} {o : Oper} {r : List Oper} (he : ops.toList.drop i = o :: r) : ops[i]? = some o := by
  have h : (ops.toList.drop i)[0]? = some o := by rw [he]; rfl
  rw [List.getElem?_drop] at h
  simpa using h
/-- Number i of a drawn region is taken. -/
theorem rgT (i : Nat) {P : Program} {md : Region.Mode} {ops : Array Oper} {Q : Exit → Act → World → Prop} {S : World → Prop} {o : Oper} {r : List Oper} {v : Value} {fuel : Nat} {listed : Array Bool} {a a' : Act} {w : World}
    (he : ops.toList.drop i = o :: r := by rfl)
    (hc : (Region.noSelect ops && Region.free md ops listed i && (Region.ready md ops listed).contains i) = true := by kernel_rfl)
    (hQ : ∀ c a w, Q (.panic c) (a.put o.dst v) w → Q (.panic c) a w := by exact fun _ _ _ h => h)
    (hw : Region.wanted o (yielded ops a.tmps) = true := by rfl)
    (hS : S w := by assumption)
    (hy : ∀ w, S w → (execOp a.eval o).run P w = .ok (.value v) w := by (intro w hSw; (try dsimp only at hSw); go_simp; (try first | (rw [dif_pos (by omega)]; simp only [Result.andThen_ok]) | rw [if_pos (by omega)]); (try with_reducible rfl); done))
    (ha : a.put o.dst v = a' := by (try simp only [Act.put, List.setIfInBounds_toArray, List.set_cons_zero, List.set_cons_succ]); rfl)
    (h : wpAnyH P md ops Q S fuel (listed.setIfInBounds i true) a' w) : wpAnyH P md ops Q S (fuel + 1) listed a w := by
  subst ha
  simp only [Bool.and_eq_true] at hc
  exact wpAnyH_take (rgO he) hc.1.1 hc.1.2 hc.2 hQ (Or.inl ⟨hw, hy⟩) hS h
theorem rgA (i : Nat) {P : Program} {md : Region.Mode} {ops : Array Oper} {Q : Exit → Act → World → Prop} {S : World → Prop} {o : Oper} {r : List Oper} {fuel : Nat} {listed : Array Bool} {a : Act} {w : World} {rs : List Nat} (he : ops.toList.drop i = o :: r)
    (h : ∀ K : Act → World → Prop, Shut (∀ a w, S w → (S w → wpAnyH P md ops Q S fuel (listed.setIfInBounds i true) a w) → K a w) → if Region.wanted o (yielded ops a.tmps) = true then Oper.wp P o a w K Q else K (a.put o.dst undef) w) (hs : AllReadyH P md ops Q S fuel listed a w rs) : AllReadyH P md ops Q S fuel listed a w (i :: rs) := AllReadyH.cons (rgO he) h hs
/-- Number i alone is ready. -/
theorem rgS (i : Nat) {P : Program} {md : Region.Mode} {ops : Array Oper} {Q : Exit → Act → World → Prop} {S : World → Prop} {o : Oper} {r : List Oper} {fuel : Nat} {listed : Array Bool} {a : Act} {w : World} (he : ops.toList.drop i = o :: r := by rfl)
    (hr : Region.ready md ops listed = [i] := by kernel_rfl)
    (h : ∀ K : Act → World → Prop, Shut (∀ a w, S w → (S w → wpAnyH P md ops Q S fuel (listed.setIfInBounds i true) a w) → K a w) → if Region.wanted o (yielded ops a.tmps) = true then Oper.wp P o a w K Q else K (a.put o.dst undef) w) : wpAnyH P md ops Q S (fuel + 1) listed a w :=
  wpAnyH_ready hr (by simp) (AllReadyH.cons (rgO he) h AllReadyH.nil)
end Go.Proofs.YteekompojgbkhaaGreat

namespace Go.Proofs.YteekompojgbkhaaGreat
open Go.ChangeShapes Go.WideShapes Go.ChangeAt Go.RowKit Go.MuLone Go.RwLone
set_option linter.unusedVariables false
set_option maxRecDepth 100000
set_option maxHeartbeats 3200000
/-- Is this the number of a slot in use? -/
def liv (S : AS) (x : Int) : Bool := decide (1 ≤ x) && (decide (x ≤ (S.n : Int)) && S.use (x - 1).toNat)
theorem liv_yes {S : AS} {x : Int} (h : liv S x = true) : ∃ k, k < S.n ∧ x = (k : Int) + 1 ∧ S.use k = true := by
  unfold liv at h
  rw [Bool.and_eq_true, Bool.and_eq_true, decide_eq_true_eq, decide_eq_true_eq] at h
  exact ⟨(x - 1).toNat, by omega, by omega, h.2.2⟩
theorem liv_no {S : AS} {x : Int} (h : liv S x = false) : ¬ S.live x := by
  rintro ⟨k, h1, rfl, h3⟩
  unfold liv at h
  rw [show ((k : Int) + 1 - 1).toNat = k from by omega, h3, decide_eq_true (show 1 ≤ (k : Int) + 1 by omega), decide_eq_true (show (k : Int) + 1 ≤ (S.n : Int) by omega)] at h
  cases h
/-- The number of the cell of a slot. -/
def atC (S : AS) (x : Int) (j : Nat) : Nat := (x - 1).toNat * S.wd + j
theorem atC_of (S : AS) (k j : Nat) : atC S ((k : Int) + 1) j = k * S.wd + j := by unfold atC; rw [show ((k : Int) + 1 - 1).toNat = k from by omega]
/-- An access more, a miss more. -/
def acc1 (S : AS) : AS := { S with acc := wrap64 (S.acc + 1) }
def mis1 (S : AS) : AS := { S with miss := wrap64 (S.miss + 1) }
def put1 (S : AS) (i : Nat) (y : Int) : AS := { S with acc := wrap64 (S.acc + 1), word := upd S.word i y }
theorem eta_rc0 (S : AS) (h : S.rc = 0) : { S with rc := 0 } = S := AS.eta_rc S 0 h
theorem arn_load (L : Lay) (S : AS) (w : World) (Q : List Nat) (x : Int) (j : Nat) (h : Arn w L Q S) (hx : liv S x = true) (hj : j < S.wd) : Calls Tryz.prog 135 #[.pointer (some ⟨L.b, 0, none⟩), .int .i64 x, .int .i64 (j : Int)] w fun e w' => e = .returned (.tuple #[.int .u64 (S.word (atC S x j)), .int .i64 0]) ∧ Arn w' L Q (acc1 S) ∧ Keeps L.has w w' := by
  obtain ⟨k, hk, rfl, hu⟩ := liv_yes hx
  rw [atC_of]
  refine (load_ok L S w k j h.h h.rc hk hu hj).mono ?_
  rintro e w' ⟨rfl, h2, k2⟩
  have e2 : ({ S with rc := 0, acc := wrap64 (S.acc + 1) } : AS) = acc1 S := eta_rc0 (acc1 S) h.rc
  rw [e2] at h2
  exact ⟨rfl, h.same h2 rfl rfl rfl rfl rfl rfl rfl rfl, k2⟩
theorem arn_load_no (L : Lay) (S : AS) (w : World) (Q : List Nat) (x y : Int) (h : Arn w L Q S) (hx : liv S x = false) : Calls Tryz.prog 135 #[.pointer (some ⟨L.b, 0, none⟩), .int .i64 x, .int .i64 y] w fun e w' => e = .returned (.tuple #[.int .u64 0, .int .i64 22]) ∧ Arn w' L Q (mis1 S) ∧ Keeps L.has w w' := by
  refine (load_no L S w x y h.h h.rc (liv_no hx)).mono ?_
  rintro e w' ⟨rfl, h2, k2⟩
  have e2 : ({ S with rc := 0, miss := wrap64 (S.miss + 1) } : AS) = mis1 S := eta_rc0 (mis1 S) h.rc
  rw [e2] at h2
  exact ⟨rfl, h.same h2 rfl rfl rfl rfl rfl rfl rfl rfl, k2⟩
theorem arn_store (L : Lay) (S : AS) (w : World) (Q : List Nat) (x : Int) (j : Nat) (y : Int) (h : Arn w L Q S) (hx : liv S x = true) (hj : j < S.wd) : Calls Tryz.prog 215 #[.pointer (some ⟨L.b, 0, none⟩), .int .i64 x, .int .i64 (j : Int), .int .u64 y] w fun e w' => e = .returned (.int .i64 0) ∧ Arn w' L Q (put1 S (atC S x j) y) ∧ Keeps L.has w w' := by
  obtain ⟨k, hk, rfl, hu⟩ := liv_yes hx
  rw [atC_of]
  refine (store_ok L S w k j y h.h h.rc hk hu hj).mono ?_
  rintro e w' ⟨rfl, h2, k2⟩
  have e2 : ({ S with rc := 0, acc := wrap64 (S.acc + 1), word := upd S.word (k * S.wd + j) y } : AS) = put1 S (k * S.wd + j) y := eta_rc0 (put1 S (k * S.wd + j) y) h.rc
  rw [e2] at h2
  exact ⟨rfl, h.same h2 rfl rfl rfl rfl rfl rfl rfl rfl, k2⟩
theorem arn_store_no (L : Lay) (S : AS) (w : World) (Q : List Nat) (x z y : Int) (h : Arn w L Q S) (hx : liv S x = false) : Calls Tryz.prog 215 #[.pointer (some ⟨L.b, 0, none⟩), .int .i64 x, .int .i64 z, .int .u64 y] w fun e w' => e = .returned (.int .i64 22) ∧ Arn w' L Q (mis1 S) ∧ Keeps L.has w w' := by
  refine (store_no L S w x z y h.h h.rc (liv_no hx)).mono ?_
  rintro e w' ⟨rfl, h2, k2⟩
  have e2 : ({ S with rc := 0, miss := wrap64 (S.miss + 1) } : AS) = mis1 S := eta_rc0 (mis1 S) h.rc
  rw [e2] at h2
  exact ⟨rfl, h.same h2 rfl rfl rfl rfl rfl rfl rfl rfl, k2⟩
/-- An index, plain: the cell of the links, the heads' words, their accesses. -/
structure XS where
  cell : Nat
  nb : Nat
  hd : Nat → Int
  cn : Int
/-- Where it lies. -/
structure XL where
  x : Nat
  h : Nat
def XL.has (X : XL) (g : Nat) : Prop := g = X.x ∨ g = X.h
structure IxH (w : World) (ab : Nat) (X : XL) (x : XS) : Prop where
  c0 : w.cell? ⟨X.x, 0, none⟩ = some (.pointer (some ⟨ab, 0, none⟩))
  c1 : w.cell? ⟨X.x, 1, none⟩ = some (.int .i64 (x.cell : Int))
  c2 : w.cell? ⟨X.x, 2, none⟩ = some (.slice (some ⟨X.h, 0, none⟩) x.nb x.nb)
  c3 : w.cell? ⟨X.x, 3, none⟩ = some (.int .i64 x.cn)
  hd : ∀ b, b < x.nb → w.cell? ⟨X.h, b, none⟩ = some (.int .u64 (x.hd b))
  f : ∀ g j, X.has g → w.frozen? ⟨g, j, none⟩ = false
  lx : X.x < w.heap.size
  lh : X.h < w.heap.size
  ne : X.x ≠ X.h
  nb : 1 ≤ x.nb ∧ x.nb ≤ 256
theorem IxH.keeps {w w' : World} {ab : Nat} {X : XL} {x : XS} {D : Nat → Prop} (h : IxH w ab X x) (k : Keeps D w w') (hn : ∀ g, X.has g → ¬ D g) : IxH w' ab X x := by
  have e1 : ∀ j, w'.cell? ⟨X.x, j, none⟩ = w.cell? ⟨X.x, j, none⟩ := fun j => k.cell (p := ⟨X.x, j, none⟩) h.lx (hn _ (.inl rfl))
  have e2 : ∀ j, w'.cell? ⟨X.h, j, none⟩ = w.cell? ⟨X.h, j, none⟩ := fun j => k.cell (p := ⟨X.h, j, none⟩) h.lh (hn _ (.inr rfl))
  refine ⟨(e1 0).trans h.c0, (e1 1).trans h.c1, (e1 2).trans h.c2, (e1 3).trans h.c3, fun b hb => (e2 b).trans (h.hd b hb), fun g j hg => ?_, Nat.lt_of_lt_of_le h.lx k.size, Nat.lt_of_lt_of_le h.lh k.size, h.ne, h.nb⟩
  rcases hg with rfl | rfl
  · exact (World.frozen?_of_block (w := w) (a := ⟨X.x, j, none⟩) (k.block X.x h.lx (hn _ (.inl rfl)))).trans (h.f _ j (.inl rfl))
  · exact (World.frozen?_of_block (w := w) (a := ⟨X.h, j, none⟩) (k.block X.h h.lh (hn _ (.inr rfl)))).trans (h.f _ j (.inr rfl))
def XS.cn1 (x : XS) : XS := { x with cn := wrap64 (x.cn + 1) }
theorem IxH.setCn {w : World} {ab : Nat} {X : XL} {x : XS} (h : IxH w ab X x) (v : Int) : IxH (w.setCell ⟨X.x, 3, none⟩ (.int .i64 v)) ab X { x with cn := v } := by
  have o : ∀ j, j ≠ 3 → (w.setCell ⟨X.x, 3, none⟩ (.int .i64 v)).cell? ⟨X.x, j, none⟩ = w.cell? ⟨X.x, j, none⟩ := fun j hj => World.cell?_setCell_other _ _ _ _ (fun e => hj (congrArg Addr.off e).symm)
  have o2 : ∀ j, (w.setCell ⟨X.x, 3, none⟩ (.int .i64 v)).cell? ⟨X.h, j, none⟩ = w.cell? ⟨X.h, j, none⟩ := fun j => World.cell?_setCell_other _ _ _ _ (fun e => h.ne (congrArg Addr.block e))
  exact ⟨(o 0 (by decide)).trans h.c0, (o 1 (by decide)).trans h.c1, (o 2 (by decide)).trans h.c2, World.cell?_setCell_same _ _ _ h.c3, fun b hb => (o2 b).trans (h.hd b hb), fun g j hg => by simpa using h.f g j hg, by simpa using h.lx, by simpa using h.lh, h.ne, h.nb⟩
theorem IxH.setHd {w : World} {ab : Nat} {X : XL} {x : XS} (h : IxH w ab X x) (b : Nat) (hb : b < x.nb) (v : Int) : IxH (w.setCell ⟨X.h, b, none⟩ (.int .u64 v)) ab X { x with hd := upd x.hd b v } := by
  have o : ∀ j, (w.setCell ⟨X.h, b, none⟩ (.int .u64 v)).cell? ⟨X.x, j, none⟩ = w.cell? ⟨X.x, j, none⟩ := fun j => World.cell?_setCell_other _ _ _ _ (fun e => h.ne (congrArg Addr.block e).symm)
  refine ⟨(o 0).trans h.c0, (o 1).trans h.c1, (o 2).trans h.c2, (o 3).trans h.c3, fun i hi => ?_, fun g j hg => by simpa using h.f g j hg, by simpa using h.lx, by simpa using h.lh, h.ne, h.nb⟩
  by_cases e : i = b
  · subst e
    show _ = some (Value.int _ (upd x.hd i v i))
    rw [upd_same]
    exact World.cell?_setCell_same _ _ _ (h.hd i hb)
  · show _ = some (Value.int _ (upd x.hd b v i))
    rw [upd_other _ _ e, World.cell?_setCell_other _ _ _ _ (fun e' => e (congrArg Addr.off e').symm)]
    exact h.hd i hi
/-- A word that is a link. -/
def LkOk (v : Int) : Prop := 0 ≤ v ∧ v ≤ 4294967295
theorem lkof_any (n : Int) (w : World) (h0 : 0 ≤ n) (h1 : n ≤ 2147483647) : Calls Tryz.prog 60 #[.int .i64 n] w fun e w' => e = .returned (.int .u64 (2 * n)) ∧ w' = w := by
  have hl := link12 n false w (by omega) (by omega)
  have e : linkV n false = (2 * n, 0) := by unfold linkV; rw [if_pos ⟨h0, h1⟩]; simp
  rw [e] at hl
  have HL : Hid (∀ _ : Unit, _) := fun _ => hl
  clear hl e
  go_enter Tryz.func60, Tryz.ntmps60
  go_wp2_with fail
  refine (HL.out ()).mono ?_
  rintro e w' ⟨rfl, rfl⟩
  go_wp2
  go_ret
  exact ⟨rfl, rfl⟩
theorem take_any (v : Int) (w : World) (h : LkOk v) : Calls Tryz.prog 81 #[.int .u64 v] w fun e w' => e = .returned (.tuple #[.int .i64 (v / 2), .bool (v % 2 == 1)]) ∧ w' = w := by
  have hl := of13 v w h.1 (by have := h.2; omega)
  have e : ofLinkV v = (v / 2, v % 2 == 1, 0) := by unfold ofLinkV; rw [if_pos (by have := h.2; omega)]
  rw [e] at hl
  have HL : Hid (∀ _ : Unit, _) := fun _ => hl
  obtain ⟨a, ha⟩ : ∃ a, v / 2 = a := ⟨_, rfl⟩
  obtain ⟨b, hb⟩ : ∃ b, (v % 2 == 1) = b := ⟨_, rfl⟩
  rw [ha, hb] at HL ⊢
  clear hl e ha hb
  go_enter Tryz.func81, Tryz.ntmps81
  go_wp2_with fail
  refine (HL.out ()).mono ?_
  rintro e w' ⟨rfl, rfl⟩
  go_wp2
  go_ret2
  exact ⟨rfl, rfl⟩
theorem end_of (b : Int) (w : World) (h0 : 0 ≤ b) (h1 : b ≤ 1000) : Calls Tryz.prog 61 #[.int .i64 b] w fun e w' => e = .returned (.int .i64 (4097 + b)) ∧ w' = w := by
  go_enter Tryz.func61, Tryz.ntmps61
  go_wp2
  go_ret
  exact ⟨rfl, rfl⟩
theorem is_end (n : Int) (w : World) : Calls Tryz.prog 132 #[.int .i64 n] w fun e w' => e = .returned (.bool (decide (4096 < n))) ∧ w' = w := by
  go_enter Tryz.func132, Tryz.ntmps132
  go_wp2
  go_ret
  exact ⟨rfl, rfl⟩
end Go.Proofs.YteekompojgbkhaaGreat
