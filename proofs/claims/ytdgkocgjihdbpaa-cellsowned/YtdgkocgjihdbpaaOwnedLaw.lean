import Derived.Test.YtdgkocgjihdbpaaOwnAny
import Derived.Test.YtdgkocgjihdbpaaSame1
import Derived.BigRegion
namespace Go.Proofs.Ytdgkocgjihdbpaa
open Go.ChangeShapes Go.WideShapes Go.ChangeAt Go.RowKit
set_option linter.unusedVariables false
set_option maxRecDepth 100000
set_option maxHeartbeats 6400000
theorem owned_refused (n wd : Int) (v : Value) (w : World) (h : ¬ (1 ≤ n ∧ n ≤ 4096 ∧ 1 ≤ wd ∧ wd ≤ 16)) : Calls Try.prog 5 #[.agg #[.int .i64 n, .int .i64 wd, v]] w fun e w' => e = .returned (.bool true) ∧ Below w.heap.size w w' := by
  have HB : Hid (Below w.heap.size w (w.alloc (.cells #[.int .i64 n, .int .i64 wd, v] 24))) := (Below.refl _ _).alloc (Nat.le_refl _) _
  go_enter Try.func5, Try.ntmps5
  go_wp2_with fail
  refine (new_refused n wd _ h).mono ?_
  rintro e w1 ⟨rfl, rfl⟩
  go_wp2_with fail
  refine (shaped_any n wd _).mono ?_
  rintro e w2 ⟨rfl, rfl⟩
  rw [decide_eq_false h]
  go_wp2_with fail
  refine (num_any _ _).mono ?_
  rintro e w3 ⟨rfl, rfl⟩
  go_wp2
  go_ret
  exact ⟨rfl, HB.out⟩
/-- The book's three rows, as made. -/
structure BM (W : World) (n bB gH gN gW : Nat) (W' : World) : Prop where
  low : Below W.heap.size W W'
  hb : W'.heap[bB]? = some (.cells #[.slice (some ⟨gH, 0, none⟩) (n + 1) (n + 1), .slice (some ⟨gN, 0, none⟩) (n + 1) (n + 1), .slice (some ⟨gW, 0, none⟩) (n + 1) (n + 1)] 48)
  hH : W'.heap[gH]? = some (.cells (madeCells #[.bool false] (n + 1)) 4)
  hN : W'.heap[gN]? = some (.cells (madeCells #[.string ⟨#[]⟩] (n + 1)) 9)
  hW : W'.heap[gW]? = some (.cells (madeCells #[.slice none 0 0] (n + 1)) 51)
  ge : W.heap.size ≤ bB ∧ W.heap.size ≤ gH ∧ W.heap.size ≤ gN ∧ W.heap.size ≤ gW
  ne : bB ≠ gH ∧ bB ≠ gN ∧ bB ≠ gW ∧ gH ≠ gN ∧ gH ≠ gW ∧ gN ≠ gW
  lt : bB < W'.heap.size ∧ gH < W'.heap.size ∧ gN < W'.heap.size ∧ gW < W'.heap.size
theorem four (W : World) (o1 o2 o3 o4 : Obj) : Below W.heap.size W ((((W.alloc o1).alloc o2).alloc o3).alloc o4).drew ∧ ((((W.alloc o1).alloc o2).alloc o3).alloc o4).drew.heap[W.heap.size]? = some o1 ∧ ((((W.alloc o1).alloc o2).alloc o3).alloc o4).drew.heap[W.heap.size + 1]? = some o2 ∧ ((((W.alloc o1).alloc o2).alloc o3).alloc o4).drew.heap[W.heap.size + 1 + 1]? = some o3 ∧ ((((W.alloc o1).alloc o2).alloc o3).alloc o4).drew.heap[W.heap.size + 1 + 1 + 1]? = some o4 ∧ ((((W.alloc o1).alloc o2).alloc o3).alloc o4).drew.heap.size = W.heap.size + 4 := by
  refine ⟨(((((Below.refl W.heap.size W).alloc (Nat.le_refl _) _).alloc (by simp; try omega) _).alloc (by simp; try omega) _).alloc (by simp; try omega) _).drew, ?_, ?_, ?_, ?_, ?_⟩
  · exact (Below.heap_alloc _ _ _ (by simp; try omega)).trans ((Below.heap_alloc _ _ _ (by simp; try omega)).trans ((Below.heap_alloc _ _ _ (by simp; try omega)).trans (heap_alloc_last _ _ _ rfl)))
  · exact (Below.heap_alloc _ _ _ (by simp; try omega)).trans ((Below.heap_alloc _ _ _ (by simp)).trans (heap_alloc_last _ _ _ (by simp)))
  · exact (Below.heap_alloc _ _ _ (by simp)).trans (heap_alloc_last _ _ _ (by simp))
  · exact heap_alloc_last _ _ _ (by simp)
  · show (Array.push _ _).size = _
    simp
def PostG (F : Nat → Nat → Nat → Nat → Act) (R : Nat → Nat → Nat → Nat → World → Prop) : Exit → Act → World → Prop
  | .normal, A, W' => ∃ b h n w, A = F b h n w ∧ R b h n w W'
  | _, _, _ => False
theorem wp_four {P : Program} {c : Code} {Q : Exit → Act → World → Prop} {a : Act} {w : World} {R : Nat → Nat → Nat → Nat → World → Prop} (h : ∃ F, c.wp P (PostG F R) a w ∧ ∀ b h n g W', R b h n g W' → Q .normal (F b h n g) W') : c.wp P Q a w := by
  obtain ⟨F, h1, h2⟩ := h
  refine Code.wp_mono ?_ h1
  intro e b w' h
  cases e <;> first | exact h.elim | (obtain ⟨x1, x2, x3, x4, rfl, hr⟩ := h; exact h2 x1 x2 x3 x4 w' hr)
theorem infoSt : (Try.prog.info? 9).map (fun i => (i.zero, i.size, i.bytes)) = some (some (.string ⟨#[]⟩), 1, 16) := by kernel_rfl
theorem infoLi : (Try.prog.info? 51).map (fun i => (i.zero, i.size, i.bytes)) = some (some (.slice none 0 0), 1, 24) := by kernel_rfl
theorem BM.own {W W' : World} {L : Lay} {n wd bB gH gN gW B : Nat} (h : BM W n bB gH gN gW W') (hA : Arn W L (List.range n) (.fresh n wd)) (hB : B ≤ W.heap.size) : OwS B L bB gH gN gW n wd W' := by
  obtain ⟨g1, g2, g3, g4⟩ := h.ge
  obtain ⟨n1, n2, n3, n4, n5, n6⟩ := h.ne
  have hlt := hA.h.lt
  have hu : ∀ k, (AS.fresh n wd).use k = true → False := fun k e => by simp [AS.fresh] at e
  refine ⟨⟨List.range n, .fresh n wd, fun _ => 0, rfl, rfl, hA.keeps (Below.keeps h.low (fun _ => False)) (fun _ _ e => e), ?_⟩⟩
  refine ⟨(cell?_heap h.hb 0).trans rfl, (cell?_heap h.hb 1).trans rfl, (cell?_heap h.hb 2).trans rfl, fun k hk => ?_, fun k hk => ⟨⟨#[]⟩, ?_, fun e => (hu k e).elim⟩, fun k hk => ⟨.slice none 0 0, ?_, fun e => (hu k e).elim⟩, fun k _ e => (hu k e).elim, fun j => frozen?_heap h.hH j, fun j => frozen?_heap h.hN j, fun j => frozen?_heap h.hW j, fun k _ e => (hu k e).elim, n1, n2, n3, n4, n5, n6, fun k _ e => (hu k e).elim, fun k j _ _ e => (hu k e).elim, fun e => by have := hlt _ e; omega, fun e => by have := hlt _ e; omega, fun e => by have := hlt _ e; omega, fun e => by have := hlt _ e; omega, fun k _ e => (hu k e).elim, h.lt, fun k _ e => (hu k e).elim, ⟨by omega, by omega, by omega, by omega⟩, fun k _ e => (hu k e).elim⟩
  · have hk' : k < n := hk
    rw [cell?_heap h.hH, getElem?_made _ _ _ (by omega)]
    simp [Nat.mod_one, AS.fresh]
  · have hk' : k < n := hk
    rw [cell?_heap h.hN, getElem?_made _ _ _ (by omega)]
    simp [Nat.mod_one]
  · have hk' : k < n := hk
    rw [cell?_heap h.hW, getElem?_made _ _ _ (by omega)]
    simp [Nat.mod_one]
/-- While the script is played. -/
structure PlayS (w : World) (gS : Nat) (L : Lay) (bB gH gN gW n wd : Nat) (v : Value) (W : World) : Prop where
  ow : OwS (gS + 1) L bB gH gN gW n wd W
  low : Below gS w W
  sc : W.heap[gS]? = some (.cells #[.int .i64 (n : Int), .int .i64 (wd : Int), v] 24)
  lt : gS < W.heap.size
theorem PlayS.step {w W W' : World} {gS : Nat} {L : Lay} {bB gH gN gW n wd : Nat} {v : Value} (h : PlayS w gS L bB gH gN gW n wd v W) (ho : OwS (gS + 1) L bB gH gN gW n wd W') (hb : Below (gS + 1) W W') : PlayS w gS L bB gH gN gW n wd v W' :=
  ⟨ho, h.low.trans (hb.mono (by omega)), (hb.block gS (by omega)).trans h.sc, Nat.lt_of_lt_of_le h.lt hb.size⟩
theorem PlayS.drew {w W : World} {gS : Nat} {L : Lay} {bB gH gN gW n wd : Nat} {v : Value} (h : PlayS w gS L bB gH gN gW n wd v W) : PlayS w gS L bB gH gN gW n wd v W.drew := by
  obtain ⟨Q, S, row, e1, e2, hA, hK⟩ := h.ow.ex
  exact h.step ⟨⟨Q, S, row, e1, e2, hA.keeps ((Keeps.refl (fun _ => False) W).drew) (fun _ _ e => e), hK.move ((Keeps.refl (fun _ => False) W).drew) (fun _ _ e => e.elim)⟩⟩ (Below.refl _ _).drew
/-- What is held while a call of the script is fetched and played. -/
def RG (w : World) (gS : Nat) (L : Lay) (bB gH gN gW n wd len cap b off : Nat) (ao : Option Addr) (o : OpV) (W' : World) : Prop :=
  W'.cell? ⟨gS, 0, none⟩ = some (.int .i64 (n : Int)) ∧ W'.cell? ⟨gS, 1, none⟩ = some (.int .i64 (wd : Int)) ∧ W'.cell? ⟨gS, 2, none⟩ = some (.slice ao len cap) ∧ W'.cell? ⟨b, off, none⟩ = some (.int .i64 o.kind) ∧ W'.cell? ⟨b, off + 1, none⟩ = some (.int .i64 o.slot) ∧ W'.cell? ⟨b, off + 2, none⟩ = some (.int .i64 o.cell) ∧ W'.cell? ⟨b, off + 3, none⟩ = some (.int .u64 o.a) ∧ W'.cell? ⟨b, off + 4, none⟩ = some (.int .u64 o.b) ∧ W'.cell? ⟨b, off + 5, none⟩ = some (.slice o.wa o.ws.length o.wc) ∧ W'.cell? ⟨b, off + 6, none⟩ = some (.string o.p) ∧ SeesU W' (gS + 1) o.wa o.ws ∧ PlayS w gS L bB gH gN gW n wd (.slice ao len cap) W'
theorem RG.step {w W W' : World} {gS : Nat} {L : Lay} {bB gH gN gW n wd len cap b off : Nat} {ao : Option Addr} {o : OpV} (h : RG w gS L bB gH gN gW n wd len cap b off ao o W) (hb : b < gS) (ho : OwS (gS + 1) L bB gH gN gW n wd W') (hw : Below (gS + 1) W W') : RG w gS L bB gH gN gW n wd len cap b off ao o W' := by
  obtain ⟨h1, h2, h3, h4, h5, h6, h7, h8, h9, h10, h11, h12⟩ := h
  have cc : ∀ g j, g < gS + 1 → W'.cell? ⟨g, j, none⟩ = W.cell? ⟨g, j, none⟩ := fun g j hg => hw.cell (p := ⟨g, j, none⟩) hg
  exact ⟨(cc _ _ (by omega)).trans h1, (cc _ _ (by omega)).trans h2, (cc _ _ (by omega)).trans h3, (cc _ _ (by omega)).trans h4, (cc _ _ (by omega)).trans h5, (cc _ _ (by omega)).trans h6, (cc _ _ (by omega)).trans h7, (cc _ _ (by omega)).trans h8, (cc _ _ (by omega)).trans h9, (cc _ _ (by omega)).trans h10, h11.later hw, h12.step ho hw⟩
theorem RG.play {w W : World} {gS : Nat} {L : Lay} {bB gH gN gW n wd len cap b off : Nat} {ao : Option Addr} {o : OpV} (h : RG w gS L bB gH gN gW n wd len cap b off ao o W) : SeesU W (gS + 1) o.wa o.ws ∧ PlayS w gS L bB gH gN gW n wd (.slice ao len cap) W := h.2.2.2.2.2.2.2.2.2.2
/-- While the book is held against the arena: t slots are looked at. -/
structure FinS (w : World) (gS : Nat) (L : Lay) (bB gH gN gW n wd : Nat) (v : Value) (t : Nat) (bv : Bool) (Q : List Nat) (S : AS) (row : Nat → Nat) (W : World) : Prop where
  en : S.n = n
  ew : S.wd = wd
  arn : Arn W L Q S
  bk : Bk W L S (gS + 1) bB gH gN gW row
  fb : bv = true ↔ ∀ k, k < t → S.use k = true
  low : Below gS w W
  sc : W.heap[gS]? = some (.cells #[.int .i64 (n : Int), .int .i64 (wd : Int), v] 24)
  lt : gS < W.heap.size
theorem FinS.move {w W W' : World} {gS : Nat} {L : Lay} {bB gH gN gW n wd : Nat} {v : Value} {t : Nat} {bv : Bool} {Q : List Nat} {S : AS} {row : Nat → Nat} (h : FinS w gS L bB gH gN gW n wd v t bv Q S row W) (hA : Arn W' L Q S) (hk : Keeps L.has W W') (hL : ∀ g, L.has g → gS + 1 ≤ g) : FinS w gS L bB gH gN gW n wd v t bv Q S row W' := by
  have hb : Below (gS + 1) W W' := hk.below h.lt (fun k hk e => by have := hL k e; omega)
  exact ⟨h.en, h.ew, hA, h.bk.move hk (fun k _ e => e), h.fb, h.low.trans (hb.mono (by omega)), (hb.block gS (by omega)).trans h.sc, Nat.lt_of_lt_of_le h.lt hk.size⟩
theorem FinS.grow {w W W' : World} {gS : Nat} {L : Lay} {bB gH gN gW n wd : Nat} {v : Value} {t : Nat} {bv : Bool} {Q : List Nat} {S : AS} {row : Nat → Nat} (h : FinS w gS L bB gH gN gW n wd v t bv Q S row W) (hb : Below W.heap.size W W') (hL : ∀ g, L.has g → gS + 1 ≤ g) : FinS w gS L bB gH gN gW n wd v t bv Q S row W' :=
  h.move (h.arn.keeps (Below.keeps hb (fun _ => False)) (fun _ _ e => e)) (Below.keeps hb L.has) hL
theorem FinS.yes {w W : World} {gS : Nat} {L : Lay} {bB gH gN gW n wd : Nat} {v : Value} {t : Nat} {bv : Bool} {Q : List Nat} {S : AS} {row : Nat → Nat} (h : FinS w gS L bB gH gN gW n wd v t bv Q S row W) (hu : S.use t = true) : FinS w gS L bB gH gN gW n wd v (t + 1) bv Q S row W :=
  ⟨h.en, h.ew, h.arn, h.bk, h.fb.trans ⟨fun e k hk => by by_cases e' : k = t; (· subst e'; exact hu); (· exact e k (by omega)), fun e k hk => e k (by omega)⟩, h.low, h.sc, h.lt⟩
theorem FinS.no {w W : World} {gS : Nat} {L : Lay} {bB gH gN gW n wd : Nat} {v : Value} {t : Nat} {bv : Bool} {Q : List Nat} {S : AS} {row : Nat → Nat} (h : FinS w gS L bB gH gN gW n wd v t bv Q S row W) (hu : S.use t = false) : FinS w gS L bB gH gN gW n wd v (t + 1) false Q S row W :=
  ⟨h.en, h.ew, h.arn, h.bk, ⟨fun e => absurd e (by decide), fun e => by have := e t (by omega); rw [hu] at this; cases this⟩, h.low, h.sc, h.lt⟩
theorem owned_walk (n wd cap : Nat) (ao : Option Addr) (os : List OpV) (w : World) (h1 : 1 ≤ n) (h2 : n ≤ 4096) (h3 : 1 ≤ wd) (h4 : wd ≤ 16) (hS : SeesO w w.heap.size ao os) (hlen : ∀ o ∈ os, o.ws.length * 8 ≤ 140737488355328) (hol : os.length ≤ 140737488355328) : Calls Try.prog 5 #[.agg #[.int .i64 (n : Int), .int .i64 (wd : Int), .slice ao os.length cap]] w fun e w' => e = .returned (.bool true) ∧ Below w.heap.size w w' := by
  have HB : Hid (Below w.heap.size w (w.alloc (.cells #[.int .i64 (n : Int), .int .i64 (wd : Int), .slice ao os.length cap] 24))) := (Below.refl _ _).alloc (Nat.le_refl _) _
  have HO : Hid (SeesO w w.heap.size ao os ∧ ∀ o ∈ os, o.ws.length * 8 ≤ 140737488355328) := ⟨hS, hlen⟩
  have hg := heap_alloc_new w (.cells #[.int .i64 (n : Int), .int .i64 (wd : Int), .slice ao os.length cap] 24)
  have HC : Hid ((w.alloc (.cells #[.int .i64 (n : Int), .int .i64 (wd : Int), .slice ao os.length cap] 24)).heap[w.heap.size]? = some (.cells #[.int .i64 (n : Int), .int .i64 (wd : Int), .slice ao os.length cap] 24) ∧ w.heap.size < (w.alloc (.cells #[.int .i64 (n : Int), .int .i64 (wd : Int), .slice ao os.length cap] 24)).heap.size) := ⟨hg, by simp⟩
  clear hS hg hlen
  go_enter Try.func5, Try.ntmps5
  go_wp2_with fail
  generalize w.alloc (.cells #[.int .i64 (n : Int), .int .i64 (wd : Int), .slice ao os.length cap] 24) = W at *
  have hgs : w.heap.size = w.heap.size := rfl
  generalize hgS : w.heap.size = gS at *
  clear hgs
  refine (arn_new n wd W h1 h2 h3 h4).mono ?_
  rintro e w1 ⟨L, rfl, hL, hA, hb⟩
  have H1 : Hid ((∀ g, L.has g → gS ≤ g ∧ g ≠ gS) ∧ Arn w1 L (List.range n) (.fresh n wd) ∧ Below gS w w1 ∧ w1.heap[gS]? = some (.cells #[.int .i64 (n : Int), .int .i64 (wd : Int), .slice ao os.length cap] 24) ∧ gS < w1.heap.size) := ⟨fun g hg => by have := hL g hg; have := HC.out.2; omega, hA, HB.out.trans (hb.mono (Nat.le_of_lt HC.out.2)), (hb.block gS HC.out.2).trans HC.out.1, Nat.lt_of_lt_of_le HC.out.2 hb.size⟩
  clear hL hA hb HC HB
  have c0 : w1.cell? ⟨gS, 0, none⟩ = some (.int .i64 (n : Int)) := (cell?_heap H1.out.2.2.2.1 0).trans rfl
  have c1 : w1.cell? ⟨gS, 1, none⟩ = some (.int .i64 (wd : Int)) := (cell?_heap H1.out.2.2.2.1 1).trans rfl
  go_wp2_with fail
  refine (shaped_any n wd _).mono ?_
  rintro e w2 ⟨rfl, rfl⟩
  rw [decide_eq_true ⟨by omega, by omega, by omega, by omega⟩]
  go_wp2_with fail
  refine (num_any _ _).mono ?_
  rintro e w3 ⟨rfl, rfl⟩
  have hm1 := run_make_any (P := Try.prog) 41 4 _ 1 1 Try.underlying41 infoBl (n + 1) (by omega) (by omega)
  have hm2 := run_make_any (P := Try.prog) 45 9 _ 1 16 Try.underlying45 infoSt (n + 1) (by omega) (by omega)
  have hm3 := run_make_any (P := Try.prog) 46 51 _ 1 24 Try.underlying46 infoLi (n + 1) (by omega) (by omega)
  rw [Int.natCast_add, Int.natCast_one, Nat.mul_one] at hm1 hm2 hm3
  have hw : IntKind.i64.wrap ((n : Int) + 1) = (n : Int) + 1 := by rw [IntKind.wrap_i64]; omega
  have hsz : gS < w3.heap.size := H1.out.2.2.2.2
  have l0 : w3.drew.cell? ⟨gS, 0, none⟩ = some (.int .i64 (n : Int)) := c0
  have l1 : ∀ o, (w3.alloc o).cell? ⟨gS, 0, none⟩ = some (.int .i64 (n : Int)) := fun o => (World.cell?_alloc_past _ _ _ hsz).trans c0
  have l2 : ∀ o o', ((w3.alloc o).alloc o').cell? ⟨gS, 0, none⟩ = some (.int .i64 (n : Int)) := fun o o' => (World.cell?_alloc_past _ _ _ (by simp; try omega)).trans (l1 o)
  have l3 : ∀ o, (w3.alloc o).drew.cell? ⟨gS, 0, none⟩ = some (.int .i64 (n : Int)) := l1
  have l4 : ∀ o o', ((w3.alloc o).alloc o').drew.cell? ⟨gS, 0, none⟩ = some (.int .i64 (n : Int)) := l2
  have l5 : ∀ o, (w3.drew.alloc o).cell? ⟨gS, 0, none⟩ = some (.int .i64 (n : Int)) := l1
  have l6 : ∀ o o', ((w3.drew.alloc o).alloc o').cell? ⟨gS, 0, none⟩ = some (.int .i64 (n : Int)) := l2
  clear hsz
  go_wp2_with fail
  refine wp_four (R := BM w3 n) ⟨fun bB gH gN gW => { tmps := #[Value.agg #[Value.int .i64 (n : Int), Value.int .i64 (wd : Int), Value.slice ao (os.length) cap], Value.pointer (some ⟨gS, 0, none⟩), Value.bool false, Value.pointer (some ⟨L.b, 0, none⟩), Value.int .i64 0, Value.pointer (some ⟨bB, 0, none⟩), undef, undef, undef, undef, undef, undef, undef, undef, undef, undef, Value.tuple #[Value.pointer (some ⟨L.b, 0, none⟩), Value.int .i64 0], Value.pointer (some ⟨gS, 0, none⟩), Value.int .i64 (n : Int), Value.pointer (some ⟨gS, 1, none⟩), Value.int .i64 (wd : Int), Value.tuple #[Value.pointer (some ⟨L.b, 0, none⟩), Value.int .i64 0], Value.pointer (some ⟨L.b, 0, none⟩), Value.int .i64 0, Value.pointer (some ⟨gS, 0, none⟩), Value.int .i64 (n : Int), Value.pointer (some ⟨gS, 1, none⟩), Value.int .i64 (wd : Int), Value.bool true, Value.bool false, undef, undef, undef, undef, undef, undef, undef, Value.pointer (some ⟨L.b, 0, none⟩), Value.bool false, Value.bool false, Value.int .i64 0, Value.int .i64 0, Value.bool false, Value.bool false, Value.pointer (some ⟨gS, 0, none⟩), Value.int .i64 (n : Int), Value.int .i64 ((n : Int) + 1), Value.slice (some ⟨gH, 0, none⟩) (n + 1) (n + 1), Value.pointer (some ⟨gS, 0, none⟩), Value.int .i64 (n : Int), Value.int .i64 ((n : Int) + 1), Value.slice (some ⟨gN, 0, none⟩) (n + 1) (n + 1), Value.pointer (some ⟨gS, 0, none⟩), Value.int .i64 (n : Int), Value.int .i64 ((n : Int) + 1), Value.slice (some ⟨gW, 0, none⟩) (n + 1) (n + 1), Value.agg #[Value.slice (some ⟨gH, 0, none⟩) (n + 1) (n + 1), Value.slice (some ⟨gN, 0, none⟩) (n + 1) (n + 1), Value.slice (some ⟨gW, 0, none⟩) (n + 1) (n + 1)], Value.pointer (some ⟨bB, 0, none⟩), undef, undef, undef, undef, undef, undef, undef, undef, undef, undef, undef, undef, undef, undef, undef, undef, undef, undef, undef, undef, undef, undef, undef, undef, undef, undef, undef, undef, undef, undef, undef, undef, undef, undef, undef, undef, undef, undef, undef, undef, undef, undef, undef, undef, undef, undef, undef, undef, undef, undef, undef, undef, undef, undef, undef, undef, undef, undef, undef, undef, undef, undef, undef, undef, undef, undef, undef, undef, undef, undef, undef, undef, undef, undef, undef, undef, undef, undef, undef, undef, undef, undef, undef, undef, undef, undef, undef, undef, undef, undef, undef, undef, undef, undef, undef, undef, undef, undef, undef, undef, undef, undef, undef, undef, undef, undef, undef, undef, undef, undef, undef, undef, undef, undef, undef], defers := [] }, ?_, ?_⟩
  · go_region
    all_goals
      refine ⟨_, _, _, _, rfl, ?_⟩
      obtain ⟨f1, f2, f3, f4, f5, f6⟩ := four w3 _ _ _ _
      exact ⟨f1, by first | exact f5, by first | exact f2 | exact f3 | exact f4, by first | exact f2 | exact f3 | exact f4, by first | exact f2 | exact f3 | exact f4, ⟨by omega, by omega, by omega, by omega⟩, ⟨by omega, by omega, by omega, by omega, by omega, by omega⟩, ⟨by rw [f6]; omega, by rw [f6]; omega, by rw [f6]; omega, by rw [f6]; omega⟩⟩
  intro bB gH gN gW w4 hR
  have H2 : Hid (BM w3 n bB gH gN gW w4) := hR
  clear hR hm1 hm2 hm3 l0 l1 l2 l3 l4 l5 l6
  have hLB : Hid (∀ g, L.has g → gS + 1 ≤ g) := fun g hg => by have := H1.out.1 g hg; omega
  have HP : Hid (PlayS w gS L bB gH gN gW n wd (.slice ao os.length cap) w4) := ⟨H2.out.own H1.out.2.1 H1.out.2.2.2.2, H1.out.2.2.1.trans (H2.out.low.mono (Nat.le_of_lt H1.out.2.2.2.2)), (H2.out.low.block gS H1.out.2.2.2.2).trans H1.out.2.2.2.1, Nat.lt_of_lt_of_le H1.out.2.2.2.2 H2.out.low.size⟩
  clear H1 H2 c0 c1
  go_wp2_with fail
  go_loopw [6] (fun i wr => ∃ t : Nat, t ≤ os.length ∧ i = .int .i64 (t : Int) ∧ PlayS w gS L bB gH gN gW n wd (.slice ao os.length cap) wr) (fun i _ => os.length - (intOf i).toNat)
  case atStart => exact ⟨0, by omega, rfl, HP.out⟩
  case round =>
    obtain ⟨t, ht, rfl, hP⟩ := hrel
    have HQ : Hid (PlayS w gS L bB gH gN gW n wd (.slice ao os.length cap) wr) := hP
    clear hP HP
    have c0 : wr.cell? ⟨gS, 0, none⟩ = some (.int .i64 (n : Int)) := (cell?_heap HQ.out.sc 0).trans rfl
    have c1 : wr.cell? ⟨gS, 1, none⟩ = some (.int .i64 (wd : Int)) := (cell?_heap HQ.out.sc 1).trans rfl
    have c2 : wr.cell? ⟨gS, 2, none⟩ = some (.slice ao os.length cap) := (cell?_heap HQ.out.sc 2).trans rfl
    by_cases h5 : t < os.length
    · obtain ⟨b, off, rfl, hb, hop⟩ := HO.out.1 t h5
      have hb' : b < gS := hb
      have HR : Hid (RG w gS L bB gH gN gW n wd os.length cap b (off + t * 7) (some ⟨b, off, none⟩) os[t] wr.drew) := by
        have q := hop.later (HQ.out.low.mono (by omega)) hb
        exact ⟨c0, c1, c2, q.c0, q.c1, q.c2, q.c3, q.c4, q.c5, q.c6, fun i hi => by
          obtain ⟨b', o', e1, e2, e3⟩ := q.ws i hi
          exact ⟨b', o', e1, by omega, e3⟩, HQ.out.drew⟩
      have HL8 : Hid (os[t].ws.length * 8 ≤ 140737488355328) := HO.out.2 _ (List.getElem_mem _)
      clear hop hb
      generalize os[t] = o at *
      have x1 : (0 : Int) ≤ (t : Int) := by omega
      have x2 : (t : Int) < (os.length : Int) := by omega
      go_wp2_with fail
      go_region_held3 (fun W' => W'.cell? ⟨gS, 0, none⟩ = some (.int .i64 (n : Int)) ∧ W'.cell? ⟨gS, 1, none⟩ = some (.int .i64 (wd : Int)) ∧ W'.cell? ⟨gS, 2, none⟩ = some (.slice (some ⟨b, off, none⟩) os.length cap) ∧ W'.cell? ⟨b, off + t * 7, none⟩ = some (.int .i64 o.kind) ∧ W'.cell? ⟨b, off + t * 7 + 1, none⟩ = some (.int .i64 o.slot) ∧ W'.cell? ⟨b, off + t * 7 + 2, none⟩ = some (.int .i64 o.cell) ∧ W'.cell? ⟨b, off + t * 7 + 3, none⟩ = some (.int .u64 o.a) ∧ W'.cell? ⟨b, off + t * 7 + 4, none⟩ = some (.int .u64 o.b) ∧ W'.cell? ⟨b, off + t * 7 + 5, none⟩ = some (.slice o.wa o.ws.length o.wc) ∧ W'.cell? ⟨b, off + t * 7 + 6, none⟩ = some (.string o.p) ∧ SeesU W' (gS + 1) o.wa o.ws ∧ PlayS w gS L bB gH gN gW n wd (.slice (some ⟨b, off, none⟩) os.length cap) W') (first | assumption | exact HR.out | exact RG.step (by assumption) hb' (by assumption) (by assumption)) (first | (go_at_call 15; refine (owned_any (gS + 1) L bB gH gN gW n wd _ o.kind o.slot o.cell o.wc o.a o.b o.wa o.ws o.p hLB.out (RG.play (by assumption)).2.ow (RG.play (by assumption)).1 HL8.out).mono ?_; rintro e w5 ⟨rfl, ho5, hb5⟩))
      have HP2 : Hid (PlayS w gS L bB gH gN gW n wd (.slice (some ⟨b, off, none⟩) os.length cap) w5) := HQ.out.drew.step ho5 hb5
      clear HQ HR ho5 hb5 c0 c1 c2
      go_wp2
      go_roundw
      case rel => exact ⟨t + 1, by omega, by go_num, HP2.out⟩
      case measure => simp [intOf]; omega
    · clear ht
      have HF : Hid (∃ Q S row, FinS w gS L bB gH gN gW n wd (.slice ao os.length cap) 0 true Q S row wr) := by
        obtain ⟨Q, S, row, e1, e2, hA, hK⟩ := HQ.out.ow.ex
        exact ⟨Q, S, row, e1, e2, hA, hK, ⟨fun _ k hk => by omega, fun _ => rfl⟩, HQ.out.low, HQ.out.sc, HQ.out.lt⟩
      go_wp2_with fail
      clear HQ c0 c1 c2
      go_loopw [8, 9] (fun fv i wr => ∃ (t : Nat) (bv : Bool) (Q : List Nat) (S : AS) (row : Nat → Nat), t ≤ n ∧ i = .int .i64 ((t : Int) + 1) ∧ fv = .bool bv ∧ FinS w gS L bB gH gN gW n wd (.slice ao os.length cap) t bv Q S row wr) (fun _ i _ => n + 1 - (intOf i).toNat)
      case atStart =>
        obtain ⟨Q, S, row, hF⟩ := HF.out
        exact ⟨0, true, Q, S, row, by omega, rfl, rfl, hF⟩
      case round =>
        obtain ⟨t, bv, Q, S, row, ht, rfl, rfl, hF⟩ := hrel
        have HG : Hid (FinS w gS L bB gH gN gW n wd (.slice ao os.length cap) t bv Q S row wr) := hF
        clear hF HF
        have c0 : wr.cell? ⟨gS, 0, none⟩ = some (.int .i64 (n : Int)) := (cell?_heap HG.out.sc 0).trans rfl
        by_cases h6 : t < n
        · have htn : t < S.n := by rw [HG.out.en]; exact h6
          have p0 := HG.out.bk.p0
          have hh := HG.out.bk.h t htn
          rw [HG.out.en] at p0
          have x1 : (0 : Int) ≤ (t : Int) + 1 := by omega
          have x2 : (t : Int) + 1 < ((n + 1 : Nat) : Int) := by omega
          cases hu : S.use t
          · rw [hu] at hh
            go_wp2
            go_roundw
            case rel => exact ⟨t + 1, false, Q, S, row, by omega, by go_num, rfl, HG.out.no hu⟩
            case measure => simp [intOf]; omega
          · rw [hu] at hh
            obtain ⟨q, hq, hq2⟩ := HG.out.bk.nm t htn
            have HQ2 : Hid (S.pay t = .string q) := hq2 hu
            clear hq hq2
            go_wp2_with fail
            refine (payload_ok L S wr t HG.out.arn.h HG.out.arn.rc htn hu q HQ2.out).mono ?_
            rintro e w5 ⟨rfl, h5, k5⟩
            have H5 : Hid (FinS w gS L bB gH gN gW n wd (.slice ao os.length cap) t bv Q S row w5) := HG.out.move (HG.out.arn.same h5 rfl rfl rfl rfl rfl rfl rfl rfl) k5 hLB.out
            clear h5 k5 HG c0 p0 hh
            go_wp2_with fail
            refine (peek_ok L S w5 t H5.out.arn.h H5.out.arn.g0 H5.out.arn.rc htn hu).mono ?_
            rintro e w6 ⟨g6, rfl, h6p⟩
            have hSS : ({ S with g0 := 0, rc := 0 } : AS) = S := by have h1 := H5.out.arn.g0; have h2 := H5.out.arn.rc; cases S; simp only at h1 h2; subst h1; subst h2; rfl
            rw [hSS] at h6p
            have H6 : Hid (PeekS w5 L S t g6 S.wd w6 ∧ FinS w gS L bB gH gN gW n wd (.slice ao os.length cap) t bv Q S row w6) := ⟨h6p, H5.out.move (H5.out.arn.same h6p.h rfl rfl rfl rfl rfl rfl rfl rfl) h6p.kp hLB.out⟩
            clear h6p H5 hSS
            have p1 := H6.out.2.bk.p1
            have p2 := H6.out.2.bk.p2
            rw [H6.out.2.en] at p1 p2
            obtain ⟨q', hq, hq2⟩ := H6.out.2.bk.nm t htn
            have hqq : q' = q := by have := (hq2 hu).symm.trans HQ2.out; injection this
            subst hqq
            obtain ⟨vr, hvr, hvr2⟩ := H6.out.2.bk.rw t htn
            rw [hvr2 hu] at hvr
            clear hq2 hvr2
            go_wp2_with fail
            refine (num_any _ _).mono ?_
            rintro e w7 ⟨rfl, rfl⟩
            go_wp2_with fail
            refine (num_any _ _).mono ?_
            rintro e w8 ⟨rfl, rfl⟩
            have HS : Hid (Calls Try.prog 18 #[.agg #[.int .i64 0, .slice (some ⟨g6, 0, none⟩) S.wd S.wd, .string ⟨#[]⟩], .agg #[.int .i64 0, .slice (some ⟨row t, 0, none⟩) S.wd S.wd, .string ⟨#[]⟩]] w8 fun e w' => e = .returned (.bool true) ∧ Below w8.heap.size w8 w') := same_eq g6 (row t) S.wd S.wd S.wd (fun i => S.word (t * S.wd + i)) w8 (by have := H6.out.2.arn.h.hw.2; omega) (fun i hi => H6.out.1.lo i hi) (fun i hi => H6.out.2.bk.rc t htn hu i hi) H6.out.1.g1 (H6.out.2.bk.sR t htn hu)
            go_wp2_with fail
            refine HS.out.mono ?_
            rintro e w9 ⟨rfl, hb9⟩
            have H9 : Hid (FinS w gS L bB gH gN gW n wd (.slice ao os.length cap) (t + 1) bv Q S row w9) := (H6.out.2.grow hb9 hLB.out).yes hu
            clear hb9 H6 HS p1 p2 hq hvr
            go_wp2
            go_roundw
            case rel => exact ⟨t + 1, bv, Q, S, row, by omega, by go_num, rfl, H9.out⟩
            case measure => simp [intOf]; omega
        · have e6 : t = n := by omega
          subst e6
          clear ht h6
          cases bv
          · obtain ⟨k, Q', rfl⟩ : ∃ k Q', Q = k :: Q' := by
              cases Q with
              | cons k Q' => exact ⟨k, Q', rfl⟩
              | nil =>
                exfalso
                have := HG.out.fb.2 (fun k hk => by
                  cases hu : S.use k
                  · have := (HG.out.arn.mem k).2 ⟨by rw [HG.out.en]; exact hk, hu⟩
                    simp at this
                  · rfl)
                cases this
            have hkm := (HG.out.arn.mem k).1 (by simp)
            go_wp2_with fail
            refine (arn_alloc L S wr Q' _ none 0 0 k (fun _ => 0) HG.out.arn (fun i hi => by omega) (Nat.zero_le _)).mono ?_
            rintro e w5 ⟨rfl, h5a, k5⟩
            have hbb : Below (gS + 1) wr w5 := k5.below HG.out.lt (fun k hk e => by have := hLB.out k e; omega)
            have H5 : Hid (Bk w5 L S (gS + 1) bB gH gN gW row ∧ Below gS w w5) := ⟨HG.out.bk.move k5 (fun k _ e => e), HG.out.low.trans (hbb.mono (by omega))⟩
            have c0' : w5.cell? ⟨gS, 0, none⟩ = _ := (hbb.cell (p := ⟨gS, 0, none⟩) (by show gS < gS + 1; omega)).trans c0
            have p0 := H5.out.1.p0
            rw [HG.out.en] at p0
            have hh := H5.out.1.h k hkm.1
            rw [hkm.2] at hh
            have hkn : k < t := by have := hkm.1; rw [HG.out.en] at this; exact this
            clear h5a k5 hbb HG c0 hkm
            have y1 : (1 : Int) ≤ (k : Int) + 1 := by omega
            have y2 : (k : Int) + 1 ≤ (t : Int) := by omega
            have y3 : (0 : Int) ≤ (k : Int) + 1 := by omega
            have y4 : (k : Int) + 1 < ((t + 1 : Nat) : Int) := by omega
            go_wp2_with fail
            refine (num_any _ _).mono ?_
            rintro e w6 ⟨rfl, rfl⟩
            go_wp2
            go_ret
            exact ⟨rfl, hgS ▸ H5.out.2⟩
          · obtain rfl : Q = [] := by
              cases Q with
              | nil => rfl
              | cons k Q' =>
                exfalso
                have h1 := (HG.out.arn.mem k).1 (by simp)
                have h2 := HG.out.fb.1 rfl k (by have := h1.1; rw [HG.out.en] at this; exact this)
                rw [h1.2] at h2
                cases h2
            go_wp2_with fail
            refine (arn_full L S wr _ none 0 0 HG.out.arn (Nat.zero_le _)).mono ?_
            rintro e w5 ⟨rfl, h5a, k5⟩
            have H5 : Hid (Below gS w w5) := HG.out.low.trans ((k5.below HG.out.lt (fun k hk e => by have := hLB.out k e; omega) : Below (gS + 1) wr w5).mono (by omega))
            clear h5a k5 HG c0
            go_wp2_with fail
            refine (num_any _ _).mono ?_
            rintro e w6 ⟨rfl, rfl⟩
            go_wp2
            go_ret
            exact ⟨rfl, hgS ▸ H5.out⟩
theorem owned_law (n wd : Int) (cap : Nat) (ao : Option Addr) (os : List OpV) (w : World) (hS : SeesO w w.heap.size ao os) (hlen : ∀ o ∈ os, o.ws.length * 8 ≤ 140737488355328) (hol : os.length ≤ 140737488355328) : Calls Try.prog 5 #[.agg #[.int .i64 n, .int .i64 wd, .slice ao os.length cap]] w fun e w' => e = .returned (.bool true) ∧ Below w.heap.size w w' := by
  by_cases h : 1 ≤ n ∧ n ≤ 4096 ∧ 1 ≤ wd ∧ wd ≤ 16
  · obtain ⟨n', rfl⟩ : ∃ n' : Nat, n = (n' : Int) := ⟨n.toNat, by omega⟩
    obtain ⟨wd', rfl⟩ : ∃ wd' : Nat, wd = (wd' : Int) := ⟨wd.toNat, by omega⟩
    exact owned_walk n' wd' cap ao os w (by omega) (by omega) (by omega) (by omega) hS hlen hol
  · exact owned_refused n wd _ w h
end Go.Proofs.Ytdgkocgjihdbpaa
