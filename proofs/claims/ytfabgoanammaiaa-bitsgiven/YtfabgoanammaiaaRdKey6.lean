import Derived.Test.YtfabgoanammaiaaRdKey5
import Derived.Test.YtfabgoanammaiaaReadU
namespace Go.Proofs.Ytfabgoanammaiaa
open Go.ChangeShapes Go.WideShapes Go.ChangeAt Go.RowKit
set_option linter.unusedVariables false

set_option maxRecDepth 100000 in
set_option maxHeartbeats 800000 in
theorem catchV (c a : Int) (bA bV bN bE : Nat) (x y z : Value) (older : List PanicEntry) (w : World)
    (hA : w.cell? ⟨bA, 0, none⟩ = some (.int .i64 a)) (hV : w.cell? ⟨bV, 0, none⟩ = some x) (hN : w.cell? ⟨bN, 0, none⟩ = some y) (hE : w.cell? ⟨bE, 0, none⟩ = some z)
    (fV : w.frozen? ⟨bV, 0, none⟩ = false) (fN : w.frozen? ⟨bN, 0, none⟩ = false) (fE : w.frozen? ⟨bE, 0, none⟩ = false)
    (n4 : bV ≠ bN) (n5 : bV ≠ bE) (n6 : bN ≠ bE) :
    CallsD Try.prog 33 #[.pointer (some ⟨bA, 0, none⟩), .pointer (some ⟨bV, 0, none⟩), .pointer (some ⟨bN, 0, none⟩), .pointer (some ⟨bE, 0, none⟩)] (.panicking ({ v := .iface 24 (.int .i64 c), recovered := false } :: older)) w fun e u' w' =>
      e = .returned (.tuple #[]) ∧ u' = .panicking ({ v := .iface 24 (.int .i64 c), recovered := true } :: older) ∧ w'.cell? ⟨bV, 0, none⟩ = some (.slice none 0 0) ∧ w'.cell? ⟨bN, 0, none⟩ = some (.int .i64 a) ∧ w'.cell? ⟨bE, 0, none⟩ = some (.int .i64 c) ∧ (∀ B, B ≤ bV → B ≤ bN → B ≤ bE → Below B w w') := by
  refine callsD_of_wpS Try.func33 rfl fun c₀ cs hu => ?_
  apply wpS_seq
  apply wpS_region
  simp [wpOpsS, go_sem, recoverD, hu, Try.ntmps33, Exit.thenS]
  refine wpS_of_wp ?_
  simp only [Array.replicate, List.replicate, List.setIfInBounds_toArray, List.set_cons_zero, List.set_cons_succ, List.append_toArray, List.cons_append, List.nil_append]
  go_wp2
  have hta := assert_errno
  go_region
  change bodyPostS _ _ _ _ _ _ _ _ _
  refine ⟨rfl, _, rfl, _, results_none rfl _ _ _, rfl, rfl, ?_, ?_, ?_, ?_⟩
  · simp [go_sem, hV]
  · simp [go_sem, hN]
  · simp [go_sem, hE]
  · intro B h1 h2 h3
    exact (((Below.refl _ _).setCell h1 _).setCell h2 _).setCell h3 _ |>.drew
theorem idleV (pA pV pN pE : Addr) (w : World) :
    CallsD Try.prog 33 #[.pointer (some pA), .pointer (some pV), .pointer (some pN), .pointer (some pE)] .returning w fun e u' w' => e = .returned (.tuple #[]) ∧ u' = .returning ∧ w' = w := by
  refine callsD_of_wpS Try.func33 rfl fun c₀ cs hu => ?_
  apply wpS_seq
  apply wpS_region
  simp [wpOpsS, go_sem, recoverD, hu, Try.ntmps33, Exit.thenS]
  refine wpS_of_wp ?_
  simp only [Array.replicate, List.replicate, List.setIfInBounds_toArray, List.set_cons_zero, List.set_cons_succ, List.append_toArray, List.cons_append, List.nil_append]
  go_wp2
  change bodyPostS _ _ _ _ _ _ _ _ _
  cases c₀
  simp only at hu
  subst hu
  exact ⟨rfl, _, rfl, _, results_none rfl _ _ _, rfl, rfl, rfl⟩

/-- What lies above the door's own blocks stays when these are stored. -/
def ownH (w : World) (n : Nat) (v : Value) (vs : List (Int × Int × ByteArray)) : Prop := ownV w (n + 5) v vs
theorem ownH.set {w : World} {n : Nat} {v : Value} {vs : List (Int × Int × ByteArray)} (h : ownH w n v vs) {q : Addr} (hq : q.block < n + 5) (u : Value) : ownH (w.setCell q u) n v vs :=
  ownV.same h fun k _ hk => Below.heap_setCell w q u k (by omega)
theorem ownH.drew {w : World} {n : Nat} {v : Value} {vs : List (Int × Int × ByteArray)} (h : ownH w n v vs) : ownH w.drew n v vs := h
theorem ownH.down {w : World} {n : Nat} {v : Value} {vs : List (Int × Int × ByteArray)} (h : ownH w n v vs) : ownV w n v vs := by
  rcases h with ⟨h1, h2 | ⟨g, cap, cur, rfl, hb, hr⟩⟩
  · exact ⟨h1, .inl h2⟩
  · exact ⟨h1, .inr ⟨g, cap, cur, rfl, by omega, hr⟩⟩
theorem ownV.form {w : World} {B : Nat} {v : Value} {vs : List (Int × Int × ByteArray)} (h : ownV w B v vs) : ∃ a n c, v = .slice a n c := by
  rcases h with ⟨h1, ⟨rfl, h2⟩ | ⟨g, cap, cur, rfl, hb, hr⟩⟩
  · exact ⟨_, _, _, rfl⟩
  · exact ⟨_, _, _, rfl⟩
theorem ownV_door {w w1 : World} {v : Value} {vs : List (Int × Int × ByteArray)} {a b c d e : Obj} (h : ownV w1 (((((w.alloc a).alloc b).alloc c).alloc d).alloc e).heap.size v vs) : ownH w1 w.heap.size v vs := by
  unfold ownH; rw [← five_size w a b c d e]; exact h
theorem ownH.four {w : World} {n : Nat} {v : Value} {vs : List (Int × Int × ByteArray)} (h : ownH w n v vs) {q1 q2 q3 q4 : Addr} {u1 u2 u3 u4 : Value} (h1 : q1.block < n + 5 := by simp) (h2 : q2.block < n + 5 := by simp) (h3 : q3.block < n + 5 := by simp) (h4 : q4.block < n + 5 := by simp) : ownV ((((w.setCell q1 u1).setCell q2 u2).setCell q3 u3).setCell q4 u4).drew n v vs :=
  ((((h.set h1 u1).set h2 u2).set h3 u3).set h4 u4).drew.down
set_option maxRecDepth 100000 in
set_option maxHeartbeats 1600000 in
theorem readK_core (s : ByteArray) (p : Nat) (w : World) (r : List (Int × Int × ByteArray) × Nat × Int) (hp : p ≤ s.size) (hs : s.size ≤ 1125899906842624) (HT : Hid (∀ R w, Rd w R s p → Calls Try.prog 23 #[.pointer (some ⟨R, 0, none⟩)] w (TookV R s p w r))) :
    Calls Try.prog 22 #[.string s, .int .i64 p, .func (.func 23) #[] #[]] w fun e w' => ((r.2.2 = 0 → ∃ v, e = .returned (.tuple #[v, .int .i64 ((p : Int) + r.2.1), .int .i64 0]) ∧ ownV w' w.heap.size v r.1) ∧ (r.2.2 ≠ 0 → e = .returned (.tuple #[.slice none 0 0, .int .i64 p, .int .i64 r.2.2]))) ∧ Below w.heap.size w w' := by
  have hmf : ∀ (fn : Fn) (first cap : Array Value) (w : World), (Instr.makeFunc fn first cap).run Try.prog w = .ok (.func fn first cap) w := fun _ _ _ _ => rfl
  go_enter_defers Try.func22, Try.ntmps22
  go_wp2_with fail
  refine (HT.out (w.heap.size + 1 + 1 + 1 + 1) _ (rd_new _ _ _ _ (by simp))).mono ?_
  rintro e w1 ⟨hb, hto⟩
  have cA : w1.cell? ⟨w.heap.size, 0, none⟩ = some (.int .i64 p) := by rw [hb.cell (by simp <;> omega)]; simp [go_sem]
  have cV : w1.cell? ⟨w.heap.size + 1, 0, none⟩ = some (.slice none 0 0) := by rw [hb.cell (by simp <;> omega)]; simp [go_sem]
  have cN : w1.cell? ⟨w.heap.size + 1 + 1, 0, none⟩ = some (.int .i64 0) := by rw [hb.cell (by simp <;> omega)]; simp [go_sem]
  have cE : w1.cell? ⟨w.heap.size + 1 + 1 + 1, 0, none⟩ = some (.int .i64 0) := by rw [hb.cell (by simp)]; simp [go_sem]
  have fV : w1.frozen? ⟨w.heap.size + 1, 0, none⟩ = false := by rw [hb.frozen (by simp <;> omega)]; simp [go_sem]
  have fN : w1.frozen? ⟨w.heap.size + 1 + 1, 0, none⟩ = false := by rw [hb.frozen (by simp <;> omega)]; simp [go_sem]
  have fE : w1.frozen? ⟨w.heap.size + 1 + 1 + 1, 0, none⟩ = false := by rw [hb.frozen (by simp)]; simp [go_sem]
  have HB : Hid (Below w.heap.size w w1) := Below.of_five hb.toBelow
  clear hb
  rcases hto with ⟨hc0, v, rfl, hown, hr⟩ | ⟨hc, rfl⟩
  · have c1 := hr.cell1
    obtain ⟨va, vn, vc, rfl⟩ := hown.form
    have HO : Hid (ownH _ _ _ _) := ownV_door hown
    have HC : Hid (r.2.2 = 0) := hc0
    clear hr hown hc0
    go_wp2
    go_region
    go_wp2
    refine leaves_cons (f := 33) (args := #[.pointer (some ⟨w.heap.size, 0, none⟩), .pointer (some ⟨w.heap.size + 1, 0, none⟩), .pointer (some ⟨w.heap.size + 1 + 1, 0, none⟩), .pointer (some ⟨w.heap.size + 1 + 1 + 1, 0, none⟩)]) (by simp) (by simp [go_sem]) ?_
    refine (idleV _ _ _ _ _).mono ?_
    rintro e u' w2 ⟨rfl, rfl, rfl⟩
    refine ⟨.tuple #[.slice va vn vc, .int .i64 ((p : Int) + r.2.1), .int .i64 0], by simp [results, Try.results22, go_sem, cV, cN, cE], ?_, ?_⟩
    · refine ⟨fun _ => ⟨_, rfl, ?_⟩, fun h => absurd HC.out h⟩
      exact HO.out.four
    · exact ((((HB.out.setCell (by simp) _).setCell (by simp) _).setCell (by simp; omega) _).setCell (by simp; omega) _).drew
  · refine leaves_cons (f := 33) (args := #[.pointer (some ⟨w.heap.size, 0, none⟩), .pointer (some ⟨w.heap.size + 1, 0, none⟩), .pointer (some ⟨w.heap.size + 1 + 1, 0, none⟩), .pointer (some ⟨w.heap.size + 1 + 1 + 1, 0, none⟩)]) (by simp) (by simp [go_sem]) ?_
    refine (catchV r.2.2 p _ _ _ _ _ _ _ [] _ cA cV cN cE fV fN fE (by omega) (by omega) (by omega)).mono ?_
    rintro e u' w2 ⟨rfl, rfl, dV, dN, dE, hb2⟩
    refine ⟨.tuple #[.slice none 0 0, .int .i64 p, .int .i64 r.2.2], by simp [results, Try.results22, go_sem, dV, dN, dE], ?_, ?_⟩
    · exact ⟨fun h => absurd h hc, fun _ => rfl⟩
    · exact HB.out.trans (hb2 _ (by omega) (by omega) (by omega))

set_option maxRecDepth 100000 in
set_option maxHeartbeats 1600000 in
theorem readW_core (s : ByteArray) (p : Nat) (w : World) (r : List (Int × Int × ByteArray) × Nat × Int) (hp : p ≤ s.size) (hs : s.size ≤ 1125899906842624) (HT : Hid (∀ R w, Rd w R s p → Calls Try.prog 26 #[.pointer (some ⟨R, 0, none⟩)] w (TookV R s p w r))) :
    Calls Try.prog 22 #[.string s, .int .i64 p, .func (.func 26) #[] #[]] w fun e w' => ((r.2.2 = 0 → ∃ v, e = .returned (.tuple #[v, .int .i64 ((p : Int) + r.2.1), .int .i64 0]) ∧ ownV w' w.heap.size v r.1) ∧ (r.2.2 ≠ 0 → e = .returned (.tuple #[.slice none 0 0, .int .i64 p, .int .i64 r.2.2]))) ∧ Below w.heap.size w w' := by
  have hmf : ∀ (fn : Fn) (first cap : Array Value) (w : World), (Instr.makeFunc fn first cap).run Try.prog w = .ok (.func fn first cap) w := fun _ _ _ _ => rfl
  go_enter_defers Try.func22, Try.ntmps22
  go_wp2_with fail
  refine (HT.out (w.heap.size + 1 + 1 + 1 + 1) _ (rd_new _ _ _ _ (by simp))).mono ?_
  rintro e w1 ⟨hb, hto⟩
  have cA : w1.cell? ⟨w.heap.size, 0, none⟩ = some (.int .i64 p) := by rw [hb.cell (by simp <;> omega)]; simp [go_sem]
  have cV : w1.cell? ⟨w.heap.size + 1, 0, none⟩ = some (.slice none 0 0) := by rw [hb.cell (by simp <;> omega)]; simp [go_sem]
  have cN : w1.cell? ⟨w.heap.size + 1 + 1, 0, none⟩ = some (.int .i64 0) := by rw [hb.cell (by simp <;> omega)]; simp [go_sem]
  have cE : w1.cell? ⟨w.heap.size + 1 + 1 + 1, 0, none⟩ = some (.int .i64 0) := by rw [hb.cell (by simp)]; simp [go_sem]
  have fV : w1.frozen? ⟨w.heap.size + 1, 0, none⟩ = false := by rw [hb.frozen (by simp <;> omega)]; simp [go_sem]
  have fN : w1.frozen? ⟨w.heap.size + 1 + 1, 0, none⟩ = false := by rw [hb.frozen (by simp <;> omega)]; simp [go_sem]
  have fE : w1.frozen? ⟨w.heap.size + 1 + 1 + 1, 0, none⟩ = false := by rw [hb.frozen (by simp)]; simp [go_sem]
  have HB : Hid (Below w.heap.size w w1) := Below.of_five hb.toBelow
  clear hb
  rcases hto with ⟨hc0, v, rfl, hown, hr⟩ | ⟨hc, rfl⟩
  · have c1 := hr.cell1
    obtain ⟨va, vn, vc, rfl⟩ := hown.form
    have HO : Hid (ownH _ _ _ _) := ownV_door hown
    have HC : Hid (r.2.2 = 0) := hc0
    clear hr hown hc0
    go_wp2
    go_region
    go_wp2
    refine leaves_cons (f := 33) (args := #[.pointer (some ⟨w.heap.size, 0, none⟩), .pointer (some ⟨w.heap.size + 1, 0, none⟩), .pointer (some ⟨w.heap.size + 1 + 1, 0, none⟩), .pointer (some ⟨w.heap.size + 1 + 1 + 1, 0, none⟩)]) (by simp) (by simp [go_sem]) ?_
    refine (idleV _ _ _ _ _).mono ?_
    rintro e u' w2 ⟨rfl, rfl, rfl⟩
    refine ⟨.tuple #[.slice va vn vc, .int .i64 ((p : Int) + r.2.1), .int .i64 0], by simp [results, Try.results22, go_sem, cV, cN, cE], ?_, ?_⟩
    · refine ⟨fun _ => ⟨_, rfl, ?_⟩, fun h => absurd HC.out h⟩
      exact HO.out.four
    · exact ((((HB.out.setCell (by simp) _).setCell (by simp) _).setCell (by simp; omega) _).setCell (by simp; omega) _).drew
  · refine leaves_cons (f := 33) (args := #[.pointer (some ⟨w.heap.size, 0, none⟩), .pointer (some ⟨w.heap.size + 1, 0, none⟩), .pointer (some ⟨w.heap.size + 1 + 1, 0, none⟩), .pointer (some ⟨w.heap.size + 1 + 1 + 1, 0, none⟩)]) (by simp) (by simp [go_sem]) ?_
    refine (catchV r.2.2 p _ _ _ _ _ _ _ [] _ cA cV cN cE fV fN fE (by omega) (by omega) (by omega)).mono ?_
    rintro e u' w2 ⟨rfl, rfl, dV, dN, dE, hb2⟩
    refine ⟨.tuple #[.slice none 0 0, .int .i64 p, .int .i64 r.2.2], by simp [results, Try.results22, go_sem, dV, dN, dE], ?_, ?_⟩
    · exact ⟨fun h => absurd h hc, fun _ => rfl⟩
    · exact HB.out.trans (hb2 _ (by omega) (by omega) (by omega))

set_option maxRecDepth 100000 in
theorem readKey_any (s : ByteArray) (w : World) (hs : s.size ≤ 1125899906842624) :
    Calls Try.prog 8 #[.string s] w fun e w' => (((rkL s 0).2.2 = 0 → ∃ v, e = .returned (.tuple #[v, .int .i64 0]) ∧ ownV w' w.heap.size v (rkL s 0).1) ∧ ((rkL s 0).2.2 ≠ 0 → e = .returned (.tuple #[.slice none 0 0, .int .i64 (rkL s 0).2.2]))) ∧ Below w.heap.size w w' := by
  have hC := readK_core s 0 w (rkL s 0) (Nat.zero_le _) hs (fun R w h => key_read R s 0 w h (Nat.zero_le _) hs)
  go_enter Try.func8, Try.ntmps8
  go_wp2_with fail
  refine hC.mono ?_
  rintro e w1 ⟨⟨h0, h1⟩, hb⟩
  by_cases hc : (rkL s 0).2.2 = 0
  · obtain ⟨v, rfl, hown⟩ := h0 hc
    obtain ⟨va, vn, vc, rfl⟩ := hown.form
    have HO : Hid (ownV w1 w.heap.size (.slice va vn vc) (rkL s 0).1) := hown
    have HB : Hid (Below w.heap.size w w1) := hb
    have HC : Hid ((rkL s 0).2.2 = 0) := hc
    clear hown hb hc h0 h1 hC
    go_wp2
    go_ret2
    exact ⟨⟨fun _ => ⟨_, rfl, HO.out⟩, fun h => absurd HC.out h⟩, HB.out⟩
  · have he := h1 hc
    subst he
    have HB : Hid (Below w.heap.size w w1) := hb
    have HC : Hid ((rkL s 0).2.2 ≠ 0) := hc
    clear hb hc h0 h1 hC
    go_wp2
    go_ret2
    exact ⟨⟨fun h => absurd h HC.out, fun _ => rfl⟩, HB.out⟩
end Go.Proofs.Ytfabgoanammaiaa
