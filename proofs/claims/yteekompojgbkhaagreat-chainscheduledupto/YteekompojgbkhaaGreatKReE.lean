import Derived.Test.YteekompojgbkhaaGreatKReC
import Derived.Test.YteekompojgbkhaaGreatKHfF
import Derived.Test.YteekompojgbkhaaGreatKHpC
import Derived.Lib.SliceRun
import Derived.Test.YteekompojgbkhaaGreatKBqF
namespace Go.Proofs.YteekompojgbkhaaGreat
open Go.ChangeShapes Go.WideShapes Go.ChangeAt Go.RowKit Go.MuLone Go.RwLone
set_option linter.unusedVariables false
set_option maxRecDepth 100000
set_option maxHeartbeats 6400000
theorem one_small (b : Nat) (h : b < 256) : (one b).2.2 ≤ 300 := by
  unfold one
  repeat' split
  all_goals (simp; try omega)
theorem dL_small : ∀ (n : Nat) (l : List UInt8), l.length ≤ n → ∀ p ∈ dL l, p.2.2 ≤ 300
  | _, [], _ => by simp [dL]
  | _, [b], _ => by
    intro p hp
    simp [dL] at hp
    subst hp
    exact one_small _ b.toNat_lt
  | n + 1, b :: c :: r, h => by
    simp only [List.length_cons] at h
    intro p hp
    by_cases h1 : b.toNat / 32 = 1
    · simp only [dL, h1, if_true, List.mem_cons] at hp
      rcases hp with rfl | hp
      · have := c.toNat_lt
        simp only
        omega
      · exact dL_small n r (by omega) p hp
    · simp only [dL, h1, if_false, List.mem_cons] at hp
      rcases hp with rfl | hp
      · exact one_small _ b.toNat_lt
      · exact dL_small n (c :: r) (by simp; omega) p hp
theorem infoQ : (Tryz.prog.info? 99).map (fun i => (i.zero, i.size, i.bytes)) = some (some (.slice none 0 0), 1, 24) := by kernel_rfl
theorem hnew_any (w : World) (n : Nat) (h1 : 1 ≤ n) (h2 : n ≤ 16) :
    Calls Tryz.prog 23 #[.int .i64 (n : Int)] w fun e w' => e = .returned (.tuple #[.pointer (some ⟨w.heap.size + 1, 0, none⟩), .int .i64 0]) ∧ w' = (w.alloc (.cells (madeCells #[.slice none 0 0] n) 99)).alloc (.cells #[.slice (some ⟨w.heap.size, 0, none⟩) n n, .int .i64 0, .slice none 0 0, .slice none 0 0] 98) := by
  have i1 : ¬ (n : Int) < 1 := by omega
  have i2 : ¬ (n : Int) > 16 := by omega
  have hm := run_make_any (P := Tryz.prog) 95 99 _ 1 24 Tryz.underlying95 infoQ n (by omega) (by omega)
  go_enter Tryz.func23, Tryz.ntmps23
  go_wp2
  go_ret2
  exact ⟨by simp, rfl⟩
/-- A harness just made. -/
def hpE (n : Nat) : Hp := ⟨(List.range n).map (fun _ => []), 0, [], []⟩
theorem hpE_len (n : Nat) : (hpE n).q.length = n := by simp [hpE]
theorem Hm.fresh {w w' : World} (pt : Nat → Nat) (n : Nat) (h2 : n ≤ 16) (k : Keeps (fun _ => False) ((w.alloc (.cells (madeCells #[.slice none 0 0] n) 99)).alloc (.cells #[.slice (some ⟨w.heap.size, 0, none⟩) n n, .int .i64 0, .slice none 0 0, .slice none 0 0] 98)) w') :
    Hm w' (fun y => y = w.heap.size ∨ y = w.heap.size + 1) pt (w.heap.size + 1) w.heap.size (fun _ => .slice none 0 0) (.slice none 0 0) (.slice none 0 0) (hpE n) := by
  have s1 : ((w.alloc (.cells (madeCells #[.slice none 0 0] n) 99)).alloc (.cells #[.slice (some ⟨w.heap.size, 0, none⟩) n n, .int .i64 0, .slice none 0 0, .slice none 0 0] 98)).heap.size = w.heap.size + 2 := by rw [szAl, szAl]
  have eq : w'.heap[w.heap.size]? = some (.cells (madeCells #[.slice none 0 0] n) 99) := (k.block _ (by omega) (fun e => e)).trans ((Below.heap_alloc _ _ _ (by rw [szAl]; omega)).trans (heap_alloc_last _ _ _ rfl))
  have eh : w'.heap[w.heap.size + 1]? = some (.cells #[.slice (some ⟨w.heap.size, 0, none⟩) n n, .int .i64 0, .slice none 0 0, .slice none 0 0] 98) := (k.block _ (by omega) (fun e => e)).trans (heap_alloc_last _ _ _ (szAl _ _).symm)
  have hl := hpE_len n
  refine ⟨by rw [hl]; exact eh, ⟨_, eq⟩, fun i hi => ?_, fun i hi => ?_, (fun i j g _ _ _ e => by cases e), OwG.nil _ _ _ _ _, OwG.nil _ _ _ _ _, .inr rfl, .inl rfl, (fun i g _ e => by cases e), (fun g e => by cases e), (fun g e => by cases e), fun x hx => ?_, by rw [hl]; exact h2⟩
  · rw [hl] at hi
    rw [cell?_heap eq i, ← Array.getElem?_toList, toList_madeCells_one]
    simp [hi]
  · have : (hpE n).q[i] = [] := by simp [hpE]
    rw [this]
    exact OwG.nil _ _ _ _ _
  · have := k.size
    rw [s1] at this
    rcases hx with rfl | rfl <;> omega
theorem ev_one (x : (Int × Int × Int × Int)) : ∀ u ∈ evC x, u.oneCell' = true := by
  intro u hu
  simp [evC] at hu
  rcases hu with rfl | rfl | rfl | rfl <;> rfl
theorem infoEv4 : (Tryz.prog.info? 70).map (fun i => (i.zero, i.size, i.bytes)) = some (some (.agg #[.int .i64 0, .int .i64 0, .int .i64 0, .int .i64 0]), 4, 32) := by kernel_rfl
theorem eqNilE (w : World) (a : Option Addr) (n c n' c' : Nat) : (binOp .eql 67 (.slice a n c) (.slice none n' c')).run Tryz.prog w = .ok (.bool a.isNone) w := Lib.run_eql_slice_nil w _ _ a n c n' c' Tryz.underlying67
theorem cloneE (w : World) (C : Nat) (a : Option Addr) (cap : Nat) (xs : List (Int × Int × Int × Int)) (h : InG evC w C (.slice a xs.length cap) xs) (hC : C ≤ w.heap.size) (hl : xs.length ≤ 68719476000) :
    Calls Tryz.prog 51 #[.slice a xs.length cap] w fun e w' => ∃ v, e = .returned v ∧ OwE w' w.heap.size v xs ∧ Keeps (fun _ => False) w w' := by
  have q := eqNilE
  match a with
  | none =>
    obtain ⟨ao, cp, e, h1, h2, h3⟩ := h
    injection e with e e' e''
    subst e
    have hz : xs = [] := List.eq_nil_of_length_eq_zero (by have := h2 rfl; omega)
    subst hz
    go_enter Tryz.func51, Tryz.ntmps51
    go_wp2
    go_ret
    exact ⟨_, rfl, OwG.nil _ _ _ _ _, Keeps.refl _ _⟩
  | some ad =>
    have HI : Hid (InG evC (w.alloc (.cells #[] 70)) C (.slice (some ad) xs.length cap) xs) := h.later ((Below.refl _ _).alloc hC _)
    have HO : Hid (OwG evC 70 4 (w.alloc (.cells #[] 70)) w.heap.size (.slice (some ⟨w.heap.size, 0, none⟩) 0 0) []) := OwG.made _ _ _ _ _ (Nat.le_refl _)
    clear h
    go_enter Tryz.func51, Tryz.ntmps51
    go_wp2_with (at_builtin; refine app_more (by rfl) _ _ 67 70 (by rfl) Tryz.underlying67 infoEv4 rfl (by decide) (fun _ => rfl) w.heap.size _ [] HO.out (by rfl) _ _ xs (by rfl) HI.out (fun y _ => ev_one y) (by unfold maxLen; simp; omega) (by simp; omega) (by simp) ?_; intro v' w1 ho hb hk; rw [List.nil_append] at ho; obtain ⟨va, vc, rfl⟩ := ho.form; have HX : Hid (OwE w1 w.heap.size (.slice va xs.length vc) xs ∧ Below w.heap.size w w1) := ⟨ho, ((Below.refl _ _).alloc (Nat.le_refl _) _).trans hb⟩; clear ho hb hk)
    go_ret
    exact ⟨_, rfl, HX.out.1, Below.keeps HX.out.2 _⟩
theorem hev_any (w : World) (F : Nat → Prop) (pt : Nat → Nat) (hb qb : Nat) (qv : Nat → Value) (ev en : Value) (h : Hp) (m : Hm w F pt hb qb qv ev en h) (hl : h.ev.length ≤ 68719476000) :
    Calls Tryz.prog 30 #[.pointer (some ⟨hb, 0, none⟩)] w fun e w' => ∃ v, e = .returned v ∧ OwE w' w.heap.size v h.ev ∧ Keeps (fun _ => False) w w' := by
  obtain ⟨a, cap, rfl⟩ := m.oe.form
  have e2 : w.cell? ⟨hb, 2, none⟩ = some (.slice a h.ev.length cap) := (cell?_heap m.hc 2).trans rfl
  have HC := cloneE w w.heap.size a cap h.ev m.oe.in (Nat.le_refl _) hl
  have HCC : Hid (∀ _ : Unit, _) := fun _ => HC
  clear HC m
  go_enter Tryz.func30, Tryz.ntmps30
  go_wp2_with fail
  refine (HCC.out ()).mono ?_
  rintro e w1 ⟨v, rfl, ho, k⟩
  have HX : Hid (OwE w1 w.heap.size v h.ev ∧ Keeps (fun _ => False) w w1) := ⟨ho, k⟩
  clear ho k e2
  go_wp2
  go_ret
  exact ⟨_, rfl, HX.out⟩
theorem PkR.of {w : World} {Fb : Nat → Prop} {B : Nat} {v : Value} {vs : List (Int × Int × Int)} (h : ownP w B v vs) (hB : ∀ x, Fb x → x < B) (hl : vs.length ≤ 140737488355328) (hn : ∀ p ∈ vs, p.2.2 ≤ 300) : PkR w Fb v vs := by
  rcases h.2 with ⟨rfl, h0⟩ | ⟨g, cap, cur, rfl, h1, h2, h3, h4, h5, h6⟩
  · exact ⟨none, 0, by rw [h0], hl, fun p hp => by have := hn p hp; omega, fun i hi => by omega⟩
  · have lg := (Array.getElem?_eq_some_iff.1 h2).1
    have c : ∀ j, j < vs.length * 3 → w.cell? ⟨g, j, none⟩ = (cellsP vs)[j]? := fun j hj => by
      have e : w.cell? ⟨g, j, none⟩ = cur[j]? := by simp [World.cell?, h2]
      rw [e, ← h6, List.getElem?_take, if_pos hj, Array.getElem?_toList]
    refine ⟨some ⟨g, 0, none⟩, cap, rfl, hl, fun p hp => by have := hn p hp; omega, fun i hi => ⟨g, 0, rfl, fun e => by have := hB g e; omega, lg, ?_, ?_, ?_⟩⟩
    all_goals
      have e := cellsP_get vs i hi
      rw [Nat.zero_add]
    · rw [c _ (by omega)]; exact e.1
    · rw [c _ (by omega)]; exact e.2.1
    · rw [c _ (by omega)]; exact e.2.2
end Go.Proofs.YteekompojgbkhaaGreat

namespace Go.Proofs.YteekompojgbkhaaGreat
open Go.ChangeShapes Go.WideShapes Go.ChangeAt Go.RowKit Go.MuLone Go.RwLone
set_option linter.unusedVariables false
set_option maxRecDepth 100000
set_option maxHeartbeats 6400000
def wdsL (S : AS) (k t : Nat) : List Int := (List.range t).map (fun j => S.word (k * S.wd + j))
end Go.Proofs.YteekompojgbkhaaGreat

namespace Go.Proofs.YteekompojgbkhaaGreat
open Go.ChangeShapes Go.WideShapes Go.ChangeAt Go.RowKit Go.MuLone Go.RwLone
set_option linter.unusedVariables false
set_option maxRecDepth 100000
set_option maxHeartbeats 6400000
def lenV : Value → Nat | .slice _ n _ => n | _ => 0
/-- What the document's Row holds when it stands at number n. -/
structure RoW (w wr : World) (S : AS) (c : Nat) (n0 n : Int) (lv mv : Value) (pre : List (Int × Bool)) : Prop where
  n1 : 0 ≤ n
  n2 : n ≤ 2147483647
  e : rowL S c 4096 n0 = pre ++ rowL S c (4096 - pre.length) n
  l : pre.length ≤ 4096
  ol : OwI wr w.heap.size lv (pre.map (fun p => p.1))
  om : OwB wr w.heap.size mv (pre.map (fun p => p.2))
  b : Below w.heap.size w wr
theorem RoW.end {w wr : World} {S : AS} {c : Nat} {n0 n : Int} {lv mv : Value} {pre : List (Int × Bool)} (h : RoW w wr S c n0 n lv mv pre) (hn : liv S n = false ∨ pre.length = 4096) : rowL S c 4096 n0 = pre := by
  rcases hn with e | e
  · rw [h.e, rowL_no e, List.append_nil]
  · rw [h.e, e]
    exact List.append_nil _
theorem RoW.step {w wr : World} {S : AS} {c : Nat} {n0 n : Int} {lv mv : Value} {pre : List (Int × Bool)} (h : RoW w wr S c n0 n lv mv pre) (hl : liv S n = true) (hp : pre.length < 4096) : rowL S c 4096 n0 = (pre ++ [(n, S.word (atC S n c) % 2 == 1)]) ++ rowL S c (4096 - (pre ++ [(n, S.word (atC S n c) % 2 == 1)]).length) (S.word (atC S n c) / 2) := by
  rw [h.e, show 4096 - pre.length = (4096 - (pre.length + 1)) + 1 from by omega, rowL_yes hl, List.append_assoc, List.length_append]
  rfl
end Go.Proofs.YteekompojgbkhaaGreat
