import Derived.Test.YtfabgoanammaiaaRdKey1
namespace Go.Proofs.Ytfabgoanammaiaa
open Go.ChangeShapes Go.WideShapes Go.ChangeAt Go.RowKit
set_option linter.unusedVariables false

/-- A value as the program hands it about. -/
def vA (k i : Int) (t : ByteArray) : Value := .agg #[.int .i64 k, .int .i64 i, .string t]
theorem infoV3 : (Try.prog.info? 45).map (·.size) = some 3 := by kernel_rfl
theorem ret_val {fn : Func} {p : Tmp} (h : fn.results = #[.cell p 45]) (tmps : Array Value) (w : World) (k i : Int) (t : ByteArray) (g : Nat) (hp : tmps.getD p undef = .pointer (some ⟨g, 0, none⟩)) (hg : w.heap[g]? = some (.cells #[.int .i64 k, .int .i64 i, .string t] 45 (0, 0))) :
    (results fn tmps).run Try.prog w = .ok (vA k i t) w :=
  results_cell_row h tmps w g 45 _ (0, 0) _ hp hg Try.underlying45 rfl infoV3
set_option maxRecDepth 100000 in
theorem boolValue_any (v : Int) (w : World) (h0 : 0 ≤ v) (h1 : v ≤ 255) : Calls Try.prog 66 #[.int .u8 v] w fun e w' => e = .returned (vA 1 v ⟨#[]⟩) ∧ Below w.heap.size w w' := by
  go_enter Try.func66, Try.ntmps66
  go_wp2
  exact bodyPost_ret (ret_val (p := 2) rfl _ _ 1 v ⟨#[]⟩ w.heap.size (by rfl) (heap_alloc_new w _)) rfl ⟨rfl, (Below.refl _ _).alloc (Nat.le_refl _) _⟩
set_option maxRecDepth 100000 in
theorem intValue_any (v : Int) (w : World) : Calls Try.prog 69 #[.int .i64 v] w fun e w' => e = .returned (vA 2 v ⟨#[]⟩) ∧ Below w.heap.size w w' := by
  go_enter Try.func69, Try.ntmps69
  go_wp2
  exact bodyPost_ret (ret_val (p := 2) rfl _ _ 2 v ⟨#[]⟩ w.heap.size (by rfl) (heap_alloc_new w _)) rfl ⟨rfl, (Below.refl _ _).alloc (Nat.le_refl _) _⟩
set_option maxRecDepth 100000 in
theorem textValue_any (t : ByteArray) (w : World) : Calls Try.prog 74 #[.string t] w fun e w' => e = .returned (vA 3 0 t) ∧ Below w.heap.size w w' := by
  go_enter Try.func74, Try.ntmps74
  go_wp2
  exact bodyPost_ret (ret_val (p := 2) rfl _ _ 3 0 t w.heap.size (by rfl) (heap_alloc_new w _)) rfl ⟨rfl, (Below.refl _ _).alloc (Nat.le_refl _) _⟩
theorem Rd.lt {w : World} {R : Nat} {s : ByteArray} {p : Nat} (h : Rd w R s p) : R < w.heap.size := by
  unfold Rd at h
  exact (Array.getElem?_eq_some_iff.1 h).1
theorem Rd.later {w w' : World} {R : Nat} {s : ByteArray} {p : Nat} (h : Rd w R s p) (hb : Below w.heap.size w w') : Rd w' R s p := by
  have hl := h.lt
  unfold Rd at h ⊢
  rw [hb.block R hl]
  exact h
/-- What a function with a value as its result begins with: a block of its own for it. -/
theorem zval {R : Nat} {s : ByteArray} {p : Nat} (w : World) (h : Rd w R s p) : ∀ w1, Below (w.alloc (.cells #[.int .i64 0, .int .i64 0, .string ⟨#[]⟩] 45)).heap.size (w.alloc (.cells #[.int .i64 0, .int .i64 0, .string ⟨#[]⟩] 45)) w1 →
    Hid (Fr R w w1) ∧ Hid (Rd w1 R s p) ∧ Hid (w1.heap[w.heap.size]? = some (.cells #[.int .i64 0, .int .i64 0, .string ⟨#[]⟩] 45 (0, 0))) ∧ w1.cell? ⟨w.heap.size, 0, none⟩ = some (.int .i64 0) ∧ w1.cell? ⟨w.heap.size, 1, none⟩ = some (.int .i64 0) ∧ w1.cell? ⟨w.heap.size, 2, none⟩ = some (.string ⟨#[]⟩) ∧ w1.frozen? ⟨w.heap.size, 0, none⟩ = false ∧ w1.frozen? ⟨w.heap.size, 1, none⟩ = false ∧ w1.frozen? ⟨w.heap.size, 2, none⟩ = false := by
  intro w1 hb
  have h0 : Below w.heap.size w (w.alloc (.cells #[.int .i64 0, .int .i64 0, .string ⟨#[]⟩] 45)) := (Below.refl _ _).alloc (Nat.le_refl _) _
  have hr := (h.later h0).later hb
  have hl : w.heap.size < (w.alloc (.cells #[.int .i64 0, .int .i64 0, .string ⟨#[]⟩] 45)).heap.size := by show _ < (Array.push _ _).size; simp
  have hg : w1.heap[w.heap.size]? = some (.cells #[.int .i64 0, .int .i64 0, .string ⟨#[]⟩] 45 (0, 0)) := (hb.block _ hl).trans (heap_alloc_new w _)
  exact ⟨Fr.of (Nat.le_of_lt h.lt) (h0.trans (hb.mono (Nat.le_of_lt hl))), hr, hg, by simp [World.cell?, hg], by simp [World.cell?, hg], by simp [World.cell?, hg], by simp [World.frozen?, hg], by simp [World.frozen?, hg], by simp [World.frozen?, hg]⟩
theorem set3 {w : World} {n : Nat} {t : TypeId} {a b c x y z : Value} (h : w.heap[n]? = some (.cells #[a, b, c] t (0, 0))) : (((w.setCell ⟨n, 0, none⟩ x).setCell ⟨n, 1, none⟩ y).setCell ⟨n, 2, none⟩ z).heap[n]? = some (.cells #[x, y, z] t (0, 0)) := by
  simp [World.setCell, Array.getElem?_modify, h]
theorem Rd.set3 {w : World} {R n p : Nat} {s : ByteArray} {x y z : Value} (h : Rd w R s p) (hn : n ≠ R) : Rd (((w.setCell ⟨n, 0, none⟩ x).setCell ⟨n, 1, none⟩ y).setCell ⟨n, 2, none⟩ z) R s p := by
  unfold Rd at h ⊢
  simp [World.setCell, Array.getElem?_modify, h, hn]
set_option maxRecDepth 100000 in
theorem rdNull_key (R : Nat) (s : ByteArray) (p : Nat) (tag : Int) (w : World) (h : Rd w R s p) :
    Calls Try.prog 45 #[.pointer (some ⟨R, 0, none⟩), .int .u8 tag] w (Took R s p w (vA 0 0 ⟨#[]⟩) 0 0) := by
  go_enter Try.func45, Try.ntmps45
  go_wp2
  have hb : Below w.heap.size w (w.alloc (.cells #[.int .i64 0, .int .i64 0, .string ⟨#[]⟩] 45)) := (Below.refl _ _).alloc (Nat.le_refl _) _
  exact bodyPost_ret (ret_val (p := 4) rfl _ _ 0 0 ⟨#[]⟩ w.heap.size (by rfl) (heap_alloc_new w _)) rfl (took_v rfl rfl (Fr.of (Nat.le_of_lt h.lt) hb) (h.later hb))
set_option maxRecDepth 100000 in
theorem rdBool_key (R : Nat) (s : ByteArray) (p : Nat) (tag : Int) (w : World) (h : Rd w R s p) (h0 : 32 ≤ tag) (h1 : tag ≤ 33) :
    Calls Try.prog 50 #[.pointer (some ⟨R, 0, none⟩), .int .u8 tag] w (Took R s p w (vA 1 (tag - 32) ⟨#[]⟩) 0 0) := by
  have Z := zval w h
  go_enter Try.func50, Try.ntmps50
  go_wp2_with fail
  refine (boolValue_any (tag - 32) _ (by omega) (by omega)).mono ?_
  rintro e w1 ⟨rfl, hb1⟩
  obtain ⟨HB1, HR1, HC1, c0, c1, c2, f0, f1, f2⟩ := Z w1 hb1
  clear hb1 Z
  unfold vA
  go_wp2
  refine bodyPost_ret (ret_val (p := 4) rfl _ _ 1 (tag - 32) ⟨#[]⟩ w.heap.size (by rfl) (set3 HC1.out)) rfl ?_
  exact took_v rfl rfl (((HB1.out.setOwn (Nat.le_of_lt h.lt) (Nat.le_refl _) _).setOwn (Nat.le_of_lt h.lt) (Nat.le_refl _) _).setOwn (Nat.le_of_lt h.lt) (Nat.le_refl _) _) (HR1.out.set3 (Nat.ne_of_gt h.lt))
set_option maxRecDepth 100000 in
theorem kind_tag (tag : Int) (w : World) (h0 : 0 ≤ tag) (h1 : tag ≤ 255) :
    Calls Try.prog 36 #[.int .u8 tag] w fun e w' => w' = w ∧ e = if tag = 16 then .returned (.int .i64 0) else if tag = 32 ∨ tag = 33 then .returned (.int .i64 1) else if 47 ≤ tag ∧ tag ≤ 64 then .returned (.int .i64 2) else if tag = 80 then .returned (.int .i64 3) else oops 14 := by
  by_cases a1 : tag = 16
  · rw [if_pos a1]
    subst a1
    go_enter Try.func36, Try.ntmps36
    go_wp2
    go_ret
    exact ⟨rfl, rfl⟩
  rw [if_neg a1]
  have t1 : (tag == 16) = false := by simpa using a1
  by_cases a2 : tag = 32 ∨ tag = 33
  · rw [if_pos a2]
    rcases a2 with rfl | rfl
    all_goals
      go_enter Try.func36, Try.ntmps36
      go_wp2
      go_ret
      exact ⟨rfl, rfl⟩
  rw [if_neg a2]
  have t2 : (tag == 32) = false := by simp; omega
  have t3 : (tag == 33) = false := by simp; omega
  by_cases a3 : 47 ≤ tag ∧ tag ≤ 64
  · rw [if_pos a3]
    obtain ⟨u1, u2⟩ := a3
    go_enter Try.func36, Try.ntmps36
    go_wp2
    go_ret
    exact ⟨rfl, rfl⟩
  rw [if_neg a3]
  by_cases a4 : tag = 80
  · rw [if_pos a4]
    subst a4
    go_enter Try.func36, Try.ntmps36
    go_wp2
    go_ret
    exact ⟨rfl, rfl⟩
  rw [if_neg a4]
  have t5 : (tag == 80) = false := by simpa using a4
  by_cases u1 : tag < 47
  · go_enter Try.func36, Try.ntmps36
    go_wp2
    exact ⟨rfl, rfl, rfl⟩
  · have u2 : 64 < tag := by omega
    have u3 : 47 ≤ tag := by omega
    go_enter Try.func36, Try.ntmps36
    go_wp2
    exact ⟨rfl, rfl, rfl⟩
end Go.Proofs.Ytfabgoanammaiaa
