import Derived.Test.YtdgkocgjihdbpaaGreatCellNil4
import Derived.BigQuiet
namespace Go.Proofs.YtdgkocgjihdbpaaGreat
open Go.ChangeShapes Go.WideShapes Go.ChangeAt Go.RowKit
set_option linter.unusedVariables false
set_option maxRecDepth 100000
set_option maxHeartbeats 3200000
/-- What a call of an arena that is not there answers: its error. -/
def nE (k : Int) : Int := if k = 1 then 1 else if k = 2 then 1 else if k = 3 then 1 else if k = 4 then 1 else if k = 5 then 1 else if k = 6 then 1 else if k = 7 then 1 else if k = 8 then 1 else if k = 11 then 1 else if k = 12 then 1 else 0
/-- Its numbers. -/
def nL (k : Int) : List Int := if k = 1 then [0] else if k = 4 then [0] else if k = 6 then [0] else if k = 7 then [0] else if k = 8 then [0] else if k = 9 then [0] else if k = 10 then [0] else if k = 12 then [0] else if k = 14 then [0, 0] else []
theorem nL_len (k : Int) : (nL k).length ≤ 2 := by
  unfold nL
  repeat' split
  all_goals simp

theorem look_nil (p : Option Addr) (o : OpV) (w : World) (h : MissP p w) (m1 : ¬ o.kind = 1) (m2 : ¬ o.kind = 2) (m3 : ¬ o.kind = 3) (m4 : ¬ o.kind = 4) (m5 : ¬ o.kind = 5) (m6 : ¬ o.kind = 6) (m7 : ¬ o.kind = 7) (m8 : ¬ o.kind = 8) : Calls Tryz.prog 23 #[.pointer p, .agg #[.int .i64 o.kind, .int .i64 o.slot, .int .i64 o.cell, .int .u64 o.a, .int .u64 o.b, .slice o.wa o.ws.length o.wc, .string o.p]] w fun e w' => ∃ v, e = .returned (.agg #[.int .i64 (nE o.kind), v, .string ⟨#[]⟩]) ∧ SeenB w' w.heap.size v (nL o.kind) ∧ Below w.heap.size w w' := by
  obtain ⟨kind, slot, cell, a, b, wa, wc, ws, s⟩ := o
  simp only at *
  by_cases h9 : kind = 9
  · subst h9
    exact look9 p ⟨9, slot, cell, a, b, wa, wc, ws, s⟩ w h
  by_cases h10 : kind = 10
  · subst h10
    exact look10 p ⟨10, slot, cell, a, b, wa, wc, ws, s⟩ w h
  by_cases h11 : kind = 11
  · subst h11
    exact look11 p ⟨11, slot, cell, a, b, wa, wc, ws, s⟩ w h
  by_cases h12 : kind = 12
  · subst h12
    exact look12 p ⟨12, slot, cell, a, b, wa, wc, ws, s⟩ w h
  by_cases h13 : kind = 13
  · subst h13
    exact look13 p ⟨13, slot, cell, a, b, wa, wc, ws, s⟩ w h
  by_cases h14 : kind = 14
  · subst h14
    exact look14 p ⟨14, slot, cell, a, b, wa, wc, ws, s⟩ w h
  have e1 : nE kind = 0 := by simp [nE, *]
  have e2 : nL kind = [] := by simp [nL, *]
  rw [e1, e2]
  exact look0 kind p ⟨kind, slot, cell, a, b, wa, wc, ws, s⟩ w h h9 h10 h11 h12 h13 h14

theorem askL (p : Option Addr) (o : OpV) (w : World) (h : MissP p w) (m1 : ¬ o.kind = 1) (m2 : ¬ o.kind = 2) (m3 : ¬ o.kind = 3) (m4 : ¬ o.kind = 4) (m5 : ¬ o.kind = 5) (m6 : ¬ o.kind = 6) (m7 : ¬ o.kind = 7) (m8 : ¬ o.kind = 8) : Calls Tryz.prog 7 #[.pointer p, .agg #[.int .i64 o.kind, .int .i64 o.slot, .int .i64 o.cell, .int .u64 o.a, .int .u64 o.b, .slice o.wa o.ws.length o.wc, .string o.p]] w fun e w' => ∃ v, e = .returned (.agg #[.int .i64 (nE o.kind), v, .string ⟨#[]⟩]) ∧ SeenB w' w.heap.size v (nL o.kind) ∧ Below w.heap.size w w' := by
  have H : Hid (NS p w w.heap.size o.kind o ((w.alloc (.cells #[.int .i64 o.kind, .int .i64 o.slot, .int .i64 o.cell, .int .u64 o.a, .int .u64 o.b, .slice o.wa o.ws.length o.wc, .string o.p] 57)).alloc (.cells #[.int .i64 0, .slice none 0 0, .string ⟨#[]⟩] 53))) := NS.start w o.kind o h
  have HM : Hid (¬ o.kind = 1 ∧ ¬ o.kind = 2 ∧ ¬ o.kind = 3 ∧ ¬ o.kind = 4 ∧ ¬ o.kind = 5 ∧ ¬ o.kind = 6 ∧ ¬ o.kind = 7 ∧ ¬ o.kind = 8) := ⟨m1, m2, m3, m4, m5, m6, m7, m8⟩
  clear h
  go_enter Tryz.func7, Tryz.ntmps7
  go_wp2_with fail
  generalize hg : w.heap.size = g at *
  generalize hW : (w.alloc (.cells #[.int .i64 o.kind, .int .i64 o.slot, .int .i64 o.cell, .int .u64 o.a, .int .u64 o.b, .slice o.wa o.ws.length o.wc, .string o.p] 57)).alloc (.cells #[.int .i64 0, .slice none 0 0, .string ⟨#[]⟩] 53) = W at *
  clear hW
  have hl := H.out.lt
  refine (look_nil p o _ H.out.ms m1 m2 m3 m4 m5 m6 m7 m8).mono ?_
  rintro e w9 ⟨v, rfl, hv, hb⟩
  have H9 : Hid (NS p w g _ o w9) := H.out.grow hb
  have HV : Hid (∃ B, g + 1 < B ∧ SeenB w9 B v (nL o.kind)) := ⟨_, hl, hv⟩
  clear H hv hb hl
  have H := H9
  clear H9
  have ev : ∃ sp n cap, v = .slice sp n cap := by
    obtain ⟨B, _, sp, cap, e, _⟩ := HV.out
    exact ⟨sp, _, cap, e⟩
  obtain ⟨sp, n, cap, rfl⟩ := ev
  have q0 := H.out.r0
  have q1 := H.out.r1
  have q2 := H.out.r2
  have z0 := H.out.z 0
  have z1 := H.out.z 1
  have z2 := H.out.z 2
  generalize hE : nE o.kind = E at *
  go_wp2_with fail
  exact bodyPost_ret (ret_ans rfl H.out _ _ _ _ rfl) rfl ⟨_, (by rw [hE]), (by obtain ⟨B, h1, h2⟩ := HV.out; exact h2.ans h1 (H.out.hg) _ _ _), hg ▸ H.out.ans _ _ _⟩

theorem ask_nil (p : Option Addr) (o : OpV) (w : World) (h : MissP p w) (B : Nat) (hB : B ≤ w.heap.size) (hs : SeesU w B o.wa o.ws) (hl8 : o.ws.length * 8 ≤ 140737488355328) : Calls Tryz.prog 7 #[.pointer p, .agg #[.int .i64 o.kind, .int .i64 o.slot, .int .i64 o.cell, .int .u64 o.a, .int .u64 o.b, .slice o.wa o.ws.length o.wc, .string o.p]] w fun e w' => ∃ v, e = .returned (.agg #[.int .i64 (nE o.kind), v, .string ⟨#[]⟩]) ∧ SeenB w' w.heap.size v (nL o.kind) ∧ Below w.heap.size w w' := by
  obtain ⟨kind, slot, cell, a, b, wa, wc, ws, s⟩ := o
  simp only at *
  by_cases h1 : kind = 1
  · subst h1
    exact ask1 p ⟨1, slot, cell, a, b, wa, wc, ws, s⟩ w h B hB hs hl8
  by_cases h2 : kind = 2
  · subst h2
    exact ask2 p ⟨2, slot, cell, a, b, wa, wc, ws, s⟩ w h
  by_cases h3 : kind = 3
  · subst h3
    exact ask3 p ⟨3, slot, cell, a, b, wa, wc, ws, s⟩ w h
  by_cases h4 : kind = 4
  · subst h4
    exact ask4 p ⟨4, slot, cell, a, b, wa, wc, ws, s⟩ w h
  by_cases h5 : kind = 5
  · subst h5
    exact ask5 p ⟨5, slot, cell, a, b, wa, wc, ws, s⟩ w h
  by_cases h6 : kind = 6
  · subst h6
    exact ask6 p ⟨6, slot, cell, a, b, wa, wc, ws, s⟩ w h
  by_cases h7 : kind = 7
  · subst h7
    exact ask7 p ⟨7, slot, cell, a, b, wa, wc, ws, s⟩ w h
  by_cases h8 : kind = 8
  · subst h8
    exact ask8 p ⟨8, slot, cell, a, b, wa, wc, ws, s⟩ w h B hB hs hl8
  exact askL p ⟨kind, slot, cell, a, b, wa, wc, ws, s⟩ w h h1 h2 h3 h4 h5 h6 h7 h8

theorem doc_nil (o : OpV) (w : World) : Calls Tryz.prog 8 #[.pointer none, .agg #[.int .i64 o.kind, .int .i64 o.slot, .int .i64 o.cell, .int .u64 o.a, .int .u64 o.b, .slice o.wa o.ws.length o.wc, .string o.p]] w fun e w' => ∃ v, e = .returned (.agg #[.int .i64 (nE o.kind), v, .string ⟨#[]⟩]) ∧ SeenB w' w.heap.size v (nL o.kind) ∧ Below w.heap.size w w' := by
  have h : MissP none w := Or.inl rfl
  obtain ⟨kind, slot, cell, a, b, wa, wc, ws, s⟩ := o
  simp only at *
  by_cases h1 : kind = 1
  · subst h1
    exact doc1 ⟨1, slot, cell, a, b, wa, wc, ws, s⟩ w h
  by_cases h2 : kind = 2
  · subst h2
    exact doc2 ⟨2, slot, cell, a, b, wa, wc, ws, s⟩ w h
  by_cases h3 : kind = 3
  · subst h3
    exact doc3 ⟨3, slot, cell, a, b, wa, wc, ws, s⟩ w h
  by_cases h4 : kind = 4
  · subst h4
    exact doc4 ⟨4, slot, cell, a, b, wa, wc, ws, s⟩ w h
  by_cases h5 : kind = 5
  · subst h5
    exact doc5 ⟨5, slot, cell, a, b, wa, wc, ws, s⟩ w h
  by_cases h6 : kind = 6
  · subst h6
    exact doc6 ⟨6, slot, cell, a, b, wa, wc, ws, s⟩ w h
  by_cases h7 : kind = 7
  · subst h7
    exact doc7 ⟨7, slot, cell, a, b, wa, wc, ws, s⟩ w h
  by_cases h8 : kind = 8
  · subst h8
    exact doc8 ⟨8, slot, cell, a, b, wa, wc, ws, s⟩ w h
  by_cases h9 : kind = 9
  · subst h9
    exact doc9 ⟨9, slot, cell, a, b, wa, wc, ws, s⟩ w h
  by_cases h10 : kind = 10
  · subst h10
    exact doc10 ⟨10, slot, cell, a, b, wa, wc, ws, s⟩ w h
  by_cases h11 : kind = 11
  · subst h11
    exact doc11 ⟨11, slot, cell, a, b, wa, wc, ws, s⟩ w h
  by_cases h12 : kind = 12
  · subst h12
    exact doc12 ⟨12, slot, cell, a, b, wa, wc, ws, s⟩ w h
  by_cases h13 : kind = 13
  · subst h13
    exact doc13 ⟨13, slot, cell, a, b, wa, wc, ws, s⟩ w h
  by_cases h14 : kind = 14
  · subst h14
    exact doc14 ⟨14, slot, cell, a, b, wa, wc, ws, s⟩ w h
  have e1 : nE kind = 0 := by simp [nE, *]
  have e2 : nL kind = [] := by simp [nL, *]
  rw [e1, e2]
  exact doc0 kind ⟨kind, slot, cell, a, b, wa, wc, ws, s⟩ w h h1 h2 h3 h4 h5 h6 h7 h8 h9 h10 h11 h12 h13 h14

theorem keepsN (w : World) (n : Nat) : Keeps (fun _ => False) w (w.drewN n) := ⟨rfl, rfl, rfl, Nat.le_refl _, fun _ _ _ => rfl⟩
theorem same_seen (E : Int) (v1 v2 : Value) (xs : List Int) (w : World) (hx : xs.length ≤ 4096) (h1 : SeenU w v1 xs) (h2 : SeenU w v2 xs) :
    Calls Tryz.prog 9 #[.agg #[.int .i64 E, v1, .string ⟨#[]⟩], .agg #[.int .i64 E, v2, .string ⟨#[]⟩]] w fun e w' => e = .returned (.bool true) ∧ Below w.heap.size w w' := by
  obtain ⟨s1, k1, rfl, h1⟩ := h1
  obtain ⟨s2, k2, rfl, h2⟩ := h2
  have HB : Hid (Below w.heap.size w ((w.alloc (.cells #[.int .i64 E, .slice s1 xs.length k1, .string ⟨#[]⟩] 53)).alloc (.cells #[.int .i64 E, .slice s2 xs.length k2, .string ⟨#[]⟩] 53))) := ((Below.refl _ _).alloc (Nat.le_refl _) _).alloc (by simp) _
  have H1 : Hid (∀ i (hi : i < xs.length), ∃ g, s1 = some ⟨g, 0, none⟩ ∧ g < w.heap.size ∧ w.cell? ⟨g, i, none⟩ = some (.int .u64 xs[i])) := h1
  have H2 : Hid (∀ i (hi : i < xs.length), ∃ g, s2 = some ⟨g, 0, none⟩ ∧ g < w.heap.size ∧ w.cell? ⟨g, i, none⟩ = some (.int .u64 xs[i])) := h2
  have HC : Hid (((w.alloc (.cells #[.int .i64 E, .slice s1 xs.length k1, .string ⟨#[]⟩] 53)).alloc (.cells #[.int .i64 E, .slice s2 xs.length k2, .string ⟨#[]⟩] 53)).cell? ⟨w.heap.size, 1, none⟩ = some (.slice s1 xs.length k1) ∧ ((w.alloc (.cells #[.int .i64 E, .slice s1 xs.length k1, .string ⟨#[]⟩] 53)).alloc (.cells #[.int .i64 E, .slice s2 xs.length k2, .string ⟨#[]⟩] 53)).cell? ⟨w.heap.size + 1, 1, none⟩ = some (.slice s2 xs.length k2)) := by
    have e1 := (Below.heap_alloc (w.alloc (.cells #[.int .i64 E, .slice s1 xs.length k1, .string ⟨#[]⟩] 53)) (.cells #[.int .i64 E, .slice s2 xs.length k2, .string ⟨#[]⟩] 53) w.heap.size (by simp)).trans (heap_alloc_new w _)
    have e2 := heap_alloc_new (w.alloc (.cells #[.int .i64 E, .slice s1 xs.length k1, .string ⟨#[]⟩] 53)) (.cells #[.int .i64 E, .slice s2 xs.length k2, .string ⟨#[]⟩] 53)
    rw [World.size_alloc] at e2
    exact ⟨(cell?_heap e1 1).trans rfl, (cell?_heap e2 1).trans rfl⟩
  clear h1 h2
  go_enter Tryz.func9, Tryz.ntmps9
  go_wp2_with fail
  generalize (w.alloc (.cells #[.int .i64 E, .slice s1 xs.length k1, .string ⟨#[]⟩] 53)).alloc (.cells #[.int .i64 E, .slice s2 xs.length k2, .string ⟨#[]⟩] 53) = W at *
  have hgs : w.heap.size = w.heap.size := rfl
  generalize hgg : w.heap.size = g at *
  clear hgs
  go_loopw [5] (fun i wr => ∃ t : Nat, t ≤ xs.length ∧ i = .int .i64 (t : Int) ∧ Below g w wr ∧ wr.cell? ⟨g, 1, none⟩ = some (.slice s1 xs.length k1) ∧ wr.cell? ⟨g + 1, 1, none⟩ = some (.slice s2 xs.length k2)) (fun i _ => xs.length - (intOf i).toNat)
  case atStart => exact ⟨0, by omega, rfl, HB.out, HC.out⟩
  case round =>
    obtain ⟨t, ht, rfl, hb, d1, d2⟩ := hrel
    have HB2 : Hid (Below g w wr) := hb
    clear hb HB HC
    by_cases h5 : t < xs.length
    · obtain ⟨g1, rfl, z1, e1⟩ := H1.out t h5
      obtain ⟨g2, rfl, z2, e2⟩ := H2.out t h5
      replace e1 := (HB2.out.cell (p := ⟨g1, t, none⟩) z1).trans e1
      replace e2 := (HB2.out.cell (p := ⟨g2, t, none⟩) z2).trans e2
      generalize xs[t] = x at *
      have x1 : (0 : Int) ≤ (t : Int) := by omega
      have x2 : (t : Int) < (xs.length : Int) := by omega
      clear H1 H2
      go_wp2_with fail
      go_quiet (fail)
      go_wp2
      go_roundw
      case rel => exact ⟨t + 1, by omega, by go_num, HB2.out.trans ((keepsN _ _).below (by have := HB2.out.size; omega) (fun _ _ e => e)), d1, d2⟩
      case measure => simp [intOf]; omega
    · go_wp2
      go_ret
      exact ⟨rfl, hgg ▸ HB2.out⟩

end Go.Proofs.YtdgkocgjihdbpaaGreat
