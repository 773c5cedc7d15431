import Derived.Test.YteekompojgbkhaaGreatKCells5E
import Derived.Laws.LoneSync
import Derived.Test.YteekompojgbkhaaGreatKCells2
namespace Go.Proofs.YteekompojgbkhaaGreat
open Go.ChangeShapes Go.WideShapes Go.ChangeAt Go.RowKit
set_option linter.unusedVariables false
set_option maxRecDepth 100000
set_option maxHeartbeats 800000

theorem u64_load (a : Addr) (x : Int) (w : World) (hc : w.cell? a = some (.int .u64 x)) : Calls Tryz.prog 82 #[.pointer (some a)] w fun e w' => e = .returned (.int .u64 x) ∧ w' = w := by
  have hl := run_call_load (P := Tryz.prog) Tryz.func127 (by kernel_rfl) (by kernel_rfl) (by kernel_rfl) .u64 (by kernel_rfl) hc
  go_enter Tryz.func82, Tryz.ntmps82
  go_wp2
  go_ret
  exact ⟨rfl, rfl⟩
theorem u64_store (a : Addr) (u : Value) (y : Int) (w : World) (hc : w.cell? a = some u) (hz : w.frozen? a = false) : Calls Tryz.prog 59 #[.pointer (some a), .int .u64 y] w fun e w' => e = .returned (.tuple #[]) ∧ w' = w.setCell a (.int .u64 y) := by
  have hl := run_call_store (P := Tryz.prog) Tryz.func108 (by kernel_rfl) (by kernel_rfl) (by kernel_rfl) (by kernel_rfl) (k := .u64) (y := y) hc hz
  go_enter Tryz.func59, Tryz.ntmps59
  go_wp2
  exact ⟨rfl, .tuple #[], by simp [results, Tryz.results59], rfl, rfl⟩
theorem u64_cas_hit (a : Addr) (x y : Int) (w : World) (hc : w.cell? a = some (.int .u64 x)) (hz : w.frozen? a = false) : Calls Tryz.prog 223 #[.pointer (some a), .int .u64 x, .int .u64 y] w fun e w' => e = .returned (.bool true) ∧ w' = w.setCell a (.int .u64 y) := by
  have hl := run_call_cas_hit (P := Tryz.prog) Tryz.func226 (by kernel_rfl) (by kernel_rfl) (by kernel_rfl) .u64 (by kernel_rfl) (y := y) hc hz
  go_enter Tryz.func223, Tryz.ntmps223
  go_wp2
  go_ret
  exact ⟨rfl, rfl⟩
theorem u64_cas_miss (a : Addr) (x z y : Int) (w : World) (hc : w.cell? a = some (.int .u64 x)) (hz : w.frozen? a = false) (hne : ¬ x = z) : Calls Tryz.prog 223 #[.pointer (some a), .int .u64 z, .int .u64 y] w fun e w' => e = .returned (.bool false) ∧ w' = w := by
  have hl := run_call_cas_miss (P := Tryz.prog) Tryz.func226 (by kernel_rfl) (by kernel_rfl) (by kernel_rfl) .u64 (by kernel_rfl) (y := y) hc hz hne
  go_enter Tryz.func223, Tryz.ntmps223
  go_wp2
  go_ret
  exact ⟨rfl, rfl⟩
theorem i64_load (a : Addr) (x : Int) (w : World) (hc : w.cell? a = some (.int .i64 x)) : Calls Tryz.prog 124 #[.pointer (some a)] w fun e w' => e = .returned (.int .i64 x) ∧ w' = w := by
  have hl := run_call_load (P := Tryz.prog) Tryz.func170 (by kernel_rfl) (by kernel_rfl) (by kernel_rfl) .i64 (by kernel_rfl) hc
  go_enter Tryz.func124, Tryz.ntmps124
  go_wp2
  go_ret
  exact ⟨rfl, rfl⟩
theorem i64_add (a : Addr) (x y : Int) (w : World) (hc : w.cell? a = some (.int .i64 x)) (hz : w.frozen? a = false) : Calls Tryz.prog 67 #[.pointer (some a), .int .i64 y] w fun e w' => e = .returned (.int .i64 (wrap64 (x + y))) ∧ w' = w.setCell a (.int .i64 (wrap64 (x + y))) := by
  have hl := run_call_add (P := Tryz.prog) Tryz.func120 (by kernel_rfl) (by kernel_rfl) (by kernel_rfl) .i64 (by kernel_rfl) (y := y) (s := wrap64 (x + y)) hc hz (by simp [go_sem, wrap64, IntKind.wrap_i64])
  go_enter Tryz.func67, Tryz.ntmps67
  go_wp2
  go_ret
  exact ⟨rfl, rfl⟩
theorem bool_load (a : Addr) (b : Bool) (w : World) (hc : w.cell? a = some (.int .u32 (bitI b))) : Calls Tryz.prog 176 #[.pointer (some a)] w fun e w' => e = .returned (.bool b) ∧ w' = w := by
  have hl := run_call_load (P := Tryz.prog) Tryz.func213 (by kernel_rfl) (by kernel_rfl) (by kernel_rfl) .u32 (by kernel_rfl) hc
  cases b
  · simp only [bitI] at hl
    go_enter Tryz.func176, Tryz.ntmps176
    go_wp2
    go_ret
    exact ⟨rfl, rfl⟩
  · simp only [bitI] at hl
    go_enter Tryz.func176, Tryz.ntmps176
    go_wp2
    go_ret
    exact ⟨rfl, rfl⟩
theorem b32_any (b : Bool) (w : World) : Calls Tryz.prog 169 #[.bool b] w fun e w' => e = .returned (.int .u32 (bitI b)) ∧ w' = w := by
  cases b
  · go_enter Tryz.func169, Tryz.ntmps169
    go_wp2
    go_ret
    exact ⟨rfl, rfl⟩
  · go_enter Tryz.func169, Tryz.ntmps169
    go_wp2
    go_ret
    exact ⟨rfl, rfl⟩
theorem bool_store (a : Addr) (u : Value) (b : Bool) (w : World) (hc : w.cell? a = some u) (hz : w.frozen? a = false) : Calls Tryz.prog 122 #[.pointer (some a), .bool b] w fun e w' => e = .returned (.tuple #[]) ∧ w' = (w.setCell a (.int .u32 (bitI b))).drew := by
  have hl := run_call_store (P := Tryz.prog) Tryz.func168 (by kernel_rfl) (by kernel_rfl) (by kernel_rfl) (by kernel_rfl) (k := .u32) (y := bitI b) (w := w.drew) hc hz
  go_enter Tryz.func122, Tryz.ntmps122
  go_wp2_with fail
  refine wp_once ?_
  apply Exists.intro
  apply Exists.intro
  constructor
  · go_region_with (go_at_call 169; refine (b32_any _ _).mono ?_; rintro e w' ⟨rfl, rfl⟩)
    all_goals exact Post1.here _ _
  clear hl
  go_wp2
  exact ⟨rfl, .tuple #[], by simp [results, Tryz.results122], rfl, rfl⟩
end Go.Proofs.YteekompojgbkhaaGreat

namespace Go.Proofs.YteekompojgbkhaaGreat
open Go.ChangeShapes Go.WideShapes Go.ChangeAt Go.RowKit
set_option linter.unusedVariables false
set_option maxRecDepth 100000
set_option maxHeartbeats 1600000
theorem has_any (L : Lay) (S : AS) (w : World) (x : Int) (h : Holds w L S) : Calls Tryz.prog 175 #[.pointer (some ⟨L.b, 0, none⟩), .int .i64 x] w fun e w' => e = .returned (.bool (decide (1 ≤ x ∧ x ≤ (S.n : Int)))) ∧ w' = w := by
  have c1 := h.c1
  clear h
  by_cases h1 : 1 ≤ x
  · by_cases h2 : x ≤ (S.n : Int)
    · have hd : decide (1 ≤ x ∧ x ≤ (S.n : Int)) = true := by simp [h1, h2]
      rw [hd]
      go_enter Tryz.func175, Tryz.ntmps175
      go_wp2
      go_ret
      exact ⟨rfl, rfl⟩
    · have hd : decide (1 ≤ x ∧ x ≤ (S.n : Int)) = false := by simp [h2]
      rw [hd]
      go_enter Tryz.func175, Tryz.ntmps175
      go_wp2
      go_ret
      exact ⟨rfl, rfl⟩
  · have hd : decide (1 ≤ x ∧ x ≤ (S.n : Int)) = false := by simp [h1]
    rw [hd]
    go_enter Tryz.func175, Tryz.ntmps175
    go_wp2
    go_ret
    exact ⟨rfl, rfl⟩
theorem inUse_no (L : Lay) (S : AS) (w : World) (x : Int) (h : Holds w L S) (hx : ¬ (1 ≤ x ∧ x ≤ (S.n : Int))) : Calls Tryz.prog 130 #[.pointer (some ⟨L.b, 0, none⟩), .int .i64 x] w fun e w' => e = .returned (.tuple #[.pointer none, .int .i64 22]) ∧ w' = w := by
  have c1 := h.c1
  go_enter Tryz.func130, Tryz.ntmps130
  go_wp2_with fail
  refine (has_any L S _ x h).mono ?_
  rintro e w' ⟨rfl, rfl⟩
  have hd : decide (1 ≤ x ∧ x ≤ (S.n : Int)) = false := by simpa using hx
  rw [hd]
  go_wp2
  go_ret2
  exact ⟨rfl, rfl⟩
theorem inUse_yes (L : Lay) (S : AS) (w : World) (k : Nat) (hk : k < S.n) (hu : S.use k = true) (h : Holds w L S) : Calls Tryz.prog 130 #[.pointer (some ⟨L.b, 0, none⟩), .int .i64 ((k : Int) + 1)] w fun e w' => e = .returned (.tuple #[.pointer (some ⟨L.s, k * 5, none⟩), .int .i64 0]) ∧ w' = w := by
  have c1 := h.c1
  have cu := h.us k hk
  have hz := h.hn.2
  rw [hu] at cu
  go_enter Tryz.func130, Tryz.ntmps130
  go_wp2_with fail
  refine (has_any L S _ _ h).mono ?_
  rintro e w' ⟨rfl, rfl⟩
  have hd : decide (1 ≤ (k : Int) + 1 ∧ (k : Int) + 1 ≤ (S.n : Int)) = true := by simp; omega
  rw [hd]
  clear h hd hu
  go_wp2_with fail
  refine (bool_load _ _ _ cu).mono ?_
  rintro e w'' ⟨rfl, rfl⟩
  go_wp2
  go_ret2
  exact ⟨rfl, rfl⟩
theorem inUse_not (L : Lay) (S : AS) (w : World) (k : Nat) (hk : k < S.n) (hu : S.use k = false) (h : Holds w L S) : Calls Tryz.prog 130 #[.pointer (some ⟨L.b, 0, none⟩), .int .i64 ((k : Int) + 1)] w fun e w' => e = .returned (.tuple #[.pointer none, .int .i64 22]) ∧ w' = w := by
  have c1 := h.c1
  have cu := h.us k hk
  have hz := h.hn.2
  rw [hu] at cu
  go_enter Tryz.func130, Tryz.ntmps130
  go_wp2_with fail
  refine (has_any L S _ _ h).mono ?_
  rintro e w' ⟨rfl, rfl⟩
  have hd : decide (1 ≤ (k : Int) + 1 ∧ (k : Int) + 1 ≤ (S.n : Int)) = true := by simp; omega
  rw [hd]
  clear h hd hu
  go_wp2_with fail
  refine (bool_load _ _ _ cu).mono ?_
  rintro e w'' ⟨rfl, rfl⟩
  go_wp2
  go_ret2
  exact ⟨rfl, rfl⟩
theorem reach_ok (L : Lay) (S : AS) (w : World) (k : Nat) (hk : k < S.n) (hu : S.use k = true) (h : Holds w L S) : Calls Tryz.prog 143 #[.pointer (some ⟨L.b, 0, none⟩), .int .i64 ((k : Int) + 1)] w fun e w' => e = .returned (.tuple #[.pointer (some ⟨L.s, k * 5, none⟩), .int .i64 0]) ∧ w' = w := by
  go_enter Tryz.func143, Tryz.ntmps143
  go_wp2_with fail
  refine (inUse_yes L S _ k hk hu h).mono ?_
  rintro e w' ⟨rfl, rfl⟩
  clear h
  go_wp2
  go_ret2
  exact ⟨rfl, rfl⟩
/-- Is x the number of a slot in use? -/
def AS.live (S : AS) (x : Int) : Prop := ∃ k, k < S.n ∧ x = (k : Int) + 1 ∧ S.use k = true
theorem AS.live_or (S : AS) (x : Int) : (¬ (1 ≤ x ∧ x ≤ (S.n : Int))) ∨ (∃ k, k < S.n ∧ x = (k : Int) + 1) := by
  by_cases h : 1 ≤ x ∧ x ≤ (S.n : Int)
  · exact Or.inr ⟨(x - 1).toNat, by omega, by omega⟩
  · exact Or.inl h
theorem reach_no (L : Lay) (S : AS) (w : World) (x : Int) (hx : ¬ S.live x) (h : Holds w L S) : Calls Tryz.prog 143 #[.pointer (some ⟨L.b, 0, none⟩), .int .i64 x] w fun e w' => e = .returned (.tuple #[.pointer none, .int .i64 22]) ∧ Holds w' L { S with miss := wrap64 (S.miss + 1) } ∧ Keeps L.has w w' := by
  have HI : Hid (Calls Tryz.prog 130 #[.pointer (some ⟨L.b, 0, none⟩), .int .i64 x] w fun e w' => e = .returned (.tuple #[.pointer none, .int .i64 22]) ∧ w' = w) := by
    rcases S.live_or x with h1 | ⟨k, hk, rfl⟩
    · exact inUse_no L S w x h h1
    · have hu : S.use k = false := by
        cases hu : S.use k
        · rfl
        · exact absurd ⟨k, hk, rfl, hu⟩ hx
      exact inUse_not L S w k hk hu h
  go_enter Tryz.func143, Tryz.ntmps143
  go_wp2_with fail
  refine HI.out.mono ?_
  rintro e w' ⟨rfl, rfl⟩
  clear HI
  have H : Hid (Holds w' L S) := h
  clear h
  go_wp2_with fail
  refine (i64_add ⟨L.b, 15, none⟩ S.miss 1 w' H.out.c15 (H.out.fz _ _ (Or.inl rfl))).mono ?_
  rintro e w'' ⟨rfl, rfl⟩
  go_wp2
  go_ret2
  exact ⟨rfl, H.out.setMiss _, (Keeps.refl _ _).setCell (Or.inl rfl) _⟩
theorem cellsOf_any (L : Lay) (S : AS) (w : World) (k : Nat) (hk : k < S.n) (h : Holds w L S) : Calls Tryz.prog 121 #[.pointer (some ⟨L.b, 0, none⟩), .int .i64 ((k : Int) + 1)] w fun e w' => e = .returned (.slice (some ⟨L.u, k * S.wd, none⟩) S.wd (S.n * S.wd - k * S.wd)) ∧ w' = w.drew := by
  have c0 := h.c0
  have c2 := h.c2
  have hz := h.hn.2
  have hwd := h.hw.2
  have hwl := h.hw.1
  clear h
  have f1 : k * S.wd + S.wd ≤ S.n * S.wd := by rw [← Nat.succ_mul]; exact Nat.mul_le_mul_right _ hk
  have f2 : S.n * S.wd ≤ 65536 := Nat.le_trans (Nat.mul_le_mul hz hwd) (by decide)
  have e2 : IntKind.i64.wrap ((k : Int) * (S.wd : Int)) = ((k * S.wd : Nat) : Int) := by rw [← Int.natCast_mul, IntKind.wrap_i64]; omega
  have e3 : IntKind.i64.wrap (((k : Int) + 1) * (S.wd : Int)) = ((k * S.wd + S.wd : Nat) : Int) := by
    have : ((k : Int) + 1) * (S.wd : Int) = ((k * S.wd + S.wd : Nat) : Int) := by rw [Int.add_mul]; simp
    rw [this, IntKind.wrap_i64]; omega
  have e1 : IntKind.i64.wrap ((k : Int) + 1 - 1) = (k : Int) := by rw [IntKind.wrap_i64]; omega
  have e0 : IntKind.i64.wrap (k : Int) = (k : Int) := by rw [IntKind.wrap_i64]; omega
  have e4 : (k : Int) + 1 - 1 = (k : Int) := by omega
  generalize k * S.wd = m at *
  generalize S.n * S.wd = N at *
  have b1 : (0 : Int) ≤ (m : Int) := by omega
  have b2 : (m : Int) ≤ ((m + S.wd : Nat) : Int) := by omega
  have b3 : ((m + S.wd : Nat) : Int) ≤ (N : Int) := by omega
  have b4 : IntKind.i64.wrap (m : Int) = (m : Int) := by rw [IntKind.wrap_i64]; omega
  have b5 : IntKind.i64.wrap ((m + S.wd : Nat) : Int) = ((m + S.wd : Nat) : Int) := by rw [IntKind.wrap_i64]; omega
  have b6 : m + S.wd - m = S.wd := by omega
  have b7 : ¬ N = m := by omega
  generalize hM : m + S.wd = M at *
  have s1 : w.drew.cell? ⟨L.b, 0, none⟩ = some (.int .i64 (S.wd : Int)) := c0
  have s2 : w.drew.cell? ⟨L.b, 2, none⟩ = some (.slice (some ⟨L.u, 0, none⟩) N N) := c2
  clear hM hk hz hwd hwl f2
  go_enter Tryz.func121, Tryz.ntmps121
  go_wp2
  go_region_held3 (fun w' => w'.cell? ⟨L.b, 0, none⟩ = some (.int .i64 (S.wd : Int)) ∧ w'.cell? ⟨L.b, 2, none⟩ = some (.slice (some ⟨L.u, 0, none⟩) N N)) (first | assumption | exact ⟨s1, s2⟩) (fail)
  go_wp2
  go_ret
  exact ⟨rfl, rfl⟩
end Go.Proofs.YteekompojgbkhaaGreat

namespace Go.Proofs.YteekompojgbkhaaGreat
open Go.ChangeShapes Go.WideShapes Go.ChangeAt Go.RowKit
set_option linter.unusedVariables false
theorem infoU : (Tryz.prog.info? 148).map (fun i => (i.zero, i.size, i.bytes)) = some (some (.agg #[.int .u64 0]), 1, 8) := by kernel_rfl
theorem run_make_any {P : Program} (t e : TypeId) (z : Value) (size bytes : Nat) (ht : P.underlying t = some (.slice e)) (hinfo : (P.info? e).map (fun i => (i.zero, i.size, i.bytes)) = some (some z, size, bytes)) (n : Nat) (hbytes : bytes * n ≤ 281474976710656) (h63 : n ≤ 9223372036854775807) (w : World) :
    (Instr.makeSlice t (.int .i64 (n : Int)) (.int .i64 (n : Int))).run P w = .ok (.slice (some ⟨w.heap.size, 0, none⟩) n n) (w.alloc (.cells (madeCells z.cells (n * size)) e)) := by
  obtain ⟨i, hi, hz0, hz1, hz2⟩ := info_parts hinfo
  have hb : (i.bytes : Int) * (n : Int) ≤ 281474976710656 := by
    have h : ((bytes * n : Nat) : Int) ≤ 281474976710656 := by omega
    rw [Int.natCast_mul] at h
    rw [hz2]
    exact h
  have := run_make (P := P) w t e i z ht hi hz0 .i64 .i64 n n (by omega) (Int.le_refl _) hb (by omega)
  simp only [Int.toNat_natCast, hz1] at this
  exact this
theorem getElem?_made (z : Array Value) (n j : Nat) (h : j < n) : (madeCells z n)[j]? = some (z[j % z.size]!) := by
  simp [madeCells, h]
def Post2 (A : Act) (W' : World) (B : Act) (V' : World) : Exit → Act → World → Prop
  | .normal, b, w' => (b = A ∧ w' = W') ∨ (b = B ∧ w' = V')
  | _, _, _ => False
theorem Post2.one (A : Act) (W' : World) (B : Act) (V' : World) : Post2 A W' B V' .normal A W' := Or.inl ⟨rfl, rfl⟩
theorem Post2.two (A : Act) (W' : World) (B : Act) (V' : World) : Post2 A W' B V' .normal B V' := Or.inr ⟨rfl, rfl⟩
theorem wp_twice {P : Program} {c : Code} {Q : Exit → Act → World → Prop} {a : Act} {w : World} (h : ∃ A W' B V', c.wp P (Post2 A W' B V') a w ∧ Q .normal A W' ∧ Q .normal B V') : c.wp P Q a w := by
  obtain ⟨A, W', B, V', h1, h2, h3⟩ := h
  refine Code.wp_mono ?_ h1
  intro e b w' h
  cases e <;> first | exact h.elim | (rcases h with ⟨rfl, rfl⟩ | ⟨rfl, rfl⟩ <;> assumption)
/-- An arena's places, as made. -/
abbrev arP (n : Nat) : Obj := .cells (madeCells #[.int .u32 0, .string ⟨#[]⟩, .string ⟨#[]⟩, .int .i64 0, .int .i64 0] (n * 5)) 215
abbrev arU (m : Nat) : Obj := .cells (madeCells #[.int .u64 0] m) 148
abbrev arA (s u n wd : Nat) : Obj := .cells #[.int .i64 (wd : Int), .slice (some ⟨s, 0, none⟩) n n, .slice (some ⟨u, 0, none⟩) (n * wd) (n * wd), .int .i32 0, .int .u32 0, .int .u32 0, .int .u32 0, .int .i32 0, .int .i32 0, .int .i32 0, .int .u32 0, .slice none 0 0, .int .i64 0, .int .i64 0, .int .i64 0, .int .i64 0] 141
/-- The world behind New's first statement. -/
structure Made (w : World) (s u n wd : Nat) (W : World) : Prop where
  size : W.heap.size = w.heap.size + 3
  low : Below w.heap.size w W
  hs : s = w.heap.size ∧ u = w.heap.size + 1 ∨ s = w.heap.size + 1 ∧ u = w.heap.size
  a : W.heap[w.heap.size + 2]? = some (arA s u n wd)
  p : W.heap[s]? = some (arP n)
  v : W.heap[u]? = some (arU (n * wd))
theorem heap_alloc_last (w : World) (o : Obj) (k : Nat) (h : k = w.heap.size) : (w.alloc o).heap[k]? = some o := by subst h; exact heap_alloc_new w o
theorem Made.one (w : World) (n wd : Nat) : Made w w.heap.size (w.heap.size + 1) n wd (((w.alloc (arP n)).alloc (arU (n * wd))).alloc (arA w.heap.size (w.heap.size + 1) n wd)).drew := by
  refine ⟨by show (Array.push _ _).size = _; simp, ?_, Or.inl ⟨rfl, rfl⟩, ?_, ?_, ?_⟩
  · exact ((((Below.refl w.heap.size w).alloc (Nat.le_refl _) _).alloc (by simp) _).alloc (by simp; omega) _).drew
  · exact heap_alloc_last _ _ _ (by simp)
  · exact (Below.heap_alloc _ _ _ (by simp; omega)).trans ((Below.heap_alloc _ _ _ (by simp)).trans (heap_alloc_last _ _ _ rfl))
  · exact (Below.heap_alloc _ _ _ (by simp)).trans (heap_alloc_last _ _ _ (by simp))
theorem Made.two (w : World) (n wd : Nat) : Made w (w.heap.size + 1) w.heap.size n wd (((w.alloc (arU (n * wd))).alloc (arP n)).alloc (arA (w.heap.size + 1) w.heap.size n wd)).drew := by
  refine ⟨by show (Array.push _ _).size = _; simp, ?_, Or.inr ⟨rfl, rfl⟩, ?_, ?_, ?_⟩
  · exact ((((Below.refl w.heap.size w).alloc (Nat.le_refl _) _).alloc (by simp) _).alloc (by simp; omega) _).drew
  · exact heap_alloc_last _ _ _ (by simp)
  · exact (Below.heap_alloc _ _ _ (by simp)).trans (heap_alloc_last _ _ _ (by simp))
  · exact (Below.heap_alloc _ _ _ (by simp; omega)).trans ((Below.heap_alloc _ _ _ (by simp)).trans (heap_alloc_last _ _ _ rfl))
/-- A new arena: all is free. -/
def AS.fresh (n wd : Nat) : AS := { n := n, wd := wd, g0 := 0, rc := 0, lk := 0, front := 0, count := n, acc := 0, miss := 0, use := fun _ => false, pay := fun _ => Ent.none, turn := fun _ => 0, word := fun _ => 0, ring := fun j => (j : Int) + 1 }
theorem cell?_heap {w : World} {k : Nat} {c : Array Value} {t : TypeId} (h : w.heap[k]? = some (.cells c t)) (j : Nat) : w.cell? ⟨k, j, none⟩ = c[j]? := by simp [World.cell?, h]
theorem frozen?_heap {w : World} {k : Nat} {c : Array Value} {t : TypeId} (h : w.heap[k]? = some (.cells c t)) (j : Nat) : w.frozen? ⟨k, j, none⟩ = false := by simp [World.frozen?, h]
theorem Made.holds {w W w' : World} {s u n wd : Nat} (hn : 1 ≤ n ∧ n ≤ 4096) (hw : 1 ≤ wd ∧ wd ≤ 16) (h : Made w s u n wd W) (f : FillS W (w.heap.size + 2) 9 n n w') : Holds w' ⟨w.heap.size + 2, s, u, w.heap.size + 3⟩ (.fresh n wd) ∧ Below w.heap.size w w' := by
  have hsz := h.size
  have hs := h.hs
  have hq := f.que
  have hl := f.low
  have hfr := f.free
  rw [hsz] at hq hl hfr
  have cb : ∀ j, j ≠ 11 → j ≠ 13 → w'.cell? ⟨w.heap.size + 2, j, none⟩ = _ := fun j h1 h2 => (f.far ⟨w.heap.size + 2, j, none⟩ (by simp; omega) (fun e => h1 (congrArg Addr.off e)) (fun e => h2 (congrArg Addr.off e))).trans (cell?_heap h.a j)
  have cs : ∀ j, w'.cell? ⟨s, j, none⟩ = _ := fun j => (f.far ⟨s, j, none⟩ (by simp; omega) (fun e => by have := congrArg Addr.block e; simp at this; omega) (fun e => by have := congrArg Addr.block e; simp at this; omega)).trans (cell?_heap h.p j)
  have cu : ∀ j, w'.cell? ⟨u, j, none⟩ = _ := fun j => (f.far ⟨u, j, none⟩ (by simp; omega) (fun e => by have := congrArg Addr.block e; simp at this; omega) (fun e => by have := congrArg Addr.block e; simp at this; omega)).trans (cell?_heap h.v j)
  refine ⟨⟨cb 0 (by decide) (by decide), cb 1 (by decide) (by decide), cb 2 (by decide) (by decide), cb 3 (by decide) (by decide), cb 5 (by decide) (by decide), cb 6 (by decide) (by decide), cb 7 (by decide) (by decide), cb 9 (by decide) (by decide), hq.ring, hq.front, hq.count, cb 14 (by decide) (by decide), cb 15 (by decide) (by decide), fun i hi => ?_, fun i hi => ?_, fun i hi => ?_, fun i hi => ?_, fun i hi => ?_, fun i hi => ?_, fun i hi => hl i hi, fun g j hg => ?_, ?_, ?_, ?_, ?_, ?_, ?_, ?_, ?_, ?_, ?_, hn, hw⟩, ?_⟩
  · have hi' : i < n := hi
    rw [cs, getElem?_made _ _ _ (by omega)]
    simp [AS.fresh, bitI]
  · have hi' : i < n := hi
    rw [cs, getElem?_made _ _ _ (by omega)]
    simp [AS.fresh, Ent.none, Nat.add_mod]
  · have hi' : i < n := hi
    rw [cs, getElem?_made _ _ _ (by omega)]
    simp [AS.fresh, Ent.none, Nat.add_mod]
  · have hi' : i < n := hi
    rw [cs, getElem?_made _ _ _ (by omega)]
    simp [AS.fresh, Ent.none, Nat.add_mod]
  · have hi' : i < n := hi
    rw [cs, getElem?_made _ _ _ (by omega)]
    simp [AS.fresh, Ent.none, Nat.add_mod]
  · have hi' : i < n * wd := hi
    rw [cu, getElem?_made _ _ _ (by omega)]
    simp [AS.fresh, Nat.mod_one]
  · rcases hg with rfl | rfl | rfl | rfl
    · exact (f.thaw _ (by simp; omega)).trans (frozen?_heap h.a j)
    · exact (f.thaw _ (by simp; omega)).trans (frozen?_heap h.p j)
    · exact (f.thaw _ (by simp; omega)).trans (frozen?_heap h.v j)
    · exact hfr j
  all_goals first
    | (have := f.size; show _ < w'.heap.size; simp only []; omega)
    | (show _ ≠ _; simp only []; omega)
    | skip
  exact h.low.trans (f.kp.below (by omega) (fun k hk e => by omega))
end Go.Proofs.YteekompojgbkhaaGreat

namespace Go.Proofs.YteekompojgbkhaaGreat
open Go.ChangeShapes Go.WideShapes Go.ChangeAt Go.RowKit
set_option linter.unusedVariables false

set_option maxRecDepth 100000 in
set_option maxHeartbeats 800000 in
/-- One that New made is not. -/
theorem missing_not (b wd : Nat) (w : World) (h0 : 0 < wd) (h1 : w.cell? ⟨b, 0, none⟩ = some (.int .i64 (wd : Int))) : Calls Tryz.prog 62 #[.pointer (some ⟨b, 0, none⟩)] w fun e w' => e = .returned (.bool false) ∧ w' = w := by
  have hne : ((wd : Int) == 0) = false := by simp; omega
  go_enter Tryz.func62, Tryz.ntmps62
  go_wp2
  go_ret
  exact ⟨rfl, rfl⟩
end Go.Proofs.YteekompojgbkhaaGreat
