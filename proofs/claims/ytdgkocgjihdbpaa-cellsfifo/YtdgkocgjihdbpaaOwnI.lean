import Derived.Test.YtdgkocgjihdbpaaCells10
import Derived.Test.YtdgkocgjihdbpaaCells11
import Derived.Test.YtdgkocgjihdbpaaCells7
namespace Go.Proofs.Ytdgkocgjihdbpaa
open Go.ChangeShapes Go.WideShapes Go.ChangeAt Go.RowKit
set_option linter.unusedVariables false

/-- The slice value v holds the numbers vs, in blocks below B. -/
def SeesI (w : World) (B : Nat) (v : Value) (vs : List Int) : Prop :=
  ∃ ao cap, v = .slice ao vs.length cap ∧ vs.length ≤ cap ∧ vs.length ≤ 140737488355328 ∧ (∀ i (hi : i < vs.length), ∃ b off, ao = some ⟨b, off, none⟩ ∧ b < B ∧ w.cell? ⟨b, off + i, none⟩ = some (.int .i64 vs[i]))
theorem SeesI.later {w w' : World} {B : Nat} {v : Value} {vs : List Int} (h : SeesI w B v vs) (hb : Below B w w') : SeesI w' B v vs := by
  obtain ⟨ao, cap, rfl, h1, h2, h3⟩ := h
  refine ⟨ao, cap, rfl, h1, h2, fun i hi => ?_⟩
  obtain ⟨b, off, e, hbB, c0⟩ := h3 i hi
  exact ⟨b, off, e, hbB, by rw [hb.cell hbB]; exact c0⟩
/-- The slice value v holds just the numbers xs, in a row of the call's own (blocks from B on). -/
def ownI (w : World) (B : Nat) (v : Value) (xs : List Int) : Prop := w.ownsRow B 3 1 v xs.length (xs.map (Value.int .i64))
theorem ownI_nil (w : World) (B : Nat) : ownI w B (.slice none 0 0) [] := World.ownsRow_nil _ _ _ _
theorem ownI.drew {w : World} {B : Nat} {v : Value} {xs : List Int} (h : ownI w B v xs) : ownI w.drew B v xs := World.ownsRow.drew h
theorem ownsRow_of_block {w w' : World} {B : Nat} {e : TypeId} {size : Nat} {v : Value} {n : Nat} {xs : List Value} (h : w.ownsRow B e size v n xs) (hk : ∀ g, v.ownBlock = some g → w'.heap[g]? = w.heap[g]?) : w'.ownsRow B e size v n xs := by
  refine ⟨h.1, ?_⟩
  rcases h.2 with h1 | ⟨g, cap, cur, rfl, h1, h2, h3⟩
  · exact Or.inl h1
  · exact Or.inr ⟨g, cap, cur, rfl, h1, (hk g rfl).trans h2, h3⟩
theorem ownI.keeps {w w' : World} {B : Nat} {v : Value} {xs : List Int} {P : Nat → Prop} (h : ownI w B v xs) (hk : Keeps P w w') (hP : ∀ g, B ≤ g → ¬ P g) : ownI w' B v xs :=
  ownsRow_of_block h (fun g hg => by obtain ⟨h1, h2⟩ := World.ownsRow.lt h g hg; exact hk.block g h2 (hP g h1))
theorem app_int {wr : World} {ops : Array Oper} {rest : List Oper} {o : Oper} {a : Act} {Q : Exit → Act → World → Prop} (hgd : o.guard = none) (s x : Operand)
    (ho : o.op = .call { callee := .builtin .append, args := #[s, x], argTypes := #[31, 31] })
    (B : Nat) (v : Value) (xs : List Int) (c : Int) (hown : ownI wr B v xs) (hs : a.eval s = v) (hx : a.eval x = .slice (some ⟨wr.heap.size, 0, none⟩) 1 1)
    (hlen : (xs.length + 1) * 8 ≤ 140737488355328) (hB : B ≤ wr.heap.size)
    (h : ∀ v' w', ownI w' B v' (xs ++ [c]) → Below B wr w' → wpList Try.prog ops Q rest (a.put o.dst v') w') :
    wpList Try.prog ops Q (o :: rest) a (wr.alloc (.cells #[.int .i64 c] 3)) := by
  obtain ⟨i0, hi, hz0, hz1, hz2⟩ := info_parts infoI
  refine wpList_append_own _ hgd s x 31 ho B 3 i0 (.int .i64 0) 1 8 Try.underlying31 hi hz0 hz1 hz2 rfl (by decide) v xs.length _ hs (World.ownsRow.alloc hown _)
    ⟨wr.heap.size, 0, none⟩ 1 1 [.int .i64 c] hx rfl ?_ ?_ (by unfold maxLen; omega) (by omega) (by simp; omega) ?_
  · intro j u hj
    match j, hj with
    | 0, hj => simp at hj; subst hj; simp [Addr.add]
  · intro u hu; simp at hu; subst hu; rfl
  · intro v' w' hown' hgrow _
    refine h v' w' ?_ ?_
    · have : (xs ++ [c]).length = xs.length + 1 := by simp
      unfold ownI; rw [this, List.map_append]; exact hown'
    · exact ((Below.refl _ _).alloc hB _).grown hgrow (by simp; omega) (fun k hk => (World.ownsRow.lt hown k hk).1)
theorem app_intL {wr : World} {ops : Array Oper} {rest : List Oper} {o : Oper} {a : Act} {Q : Exit → Act → World → Prop} (hgd : o.guard = none) (s x : Operand)
    (ho : o.op = .call { callee := .builtin .append, args := #[s, x], argTypes := #[31, 31] })
    (B : Nat) (v : Value) (xs : List Int) (c : Int) (hown : ownI wr B v xs) (hs : a.eval s = v) (gn : Nat) (hgn : gn = wr.heap.size) (hx : a.eval x = .slice (some ⟨gn, 0, none⟩) 1 1)
    (hlen : (xs.length + 1) * 8 ≤ 140737488355328) (hB : B ≤ wr.heap.size)
    (h : ∀ v' w', ownI w' B v' (xs ++ [c]) → Below B wr w' → wpList Try.prog ops Q rest (a.put o.dst v') w') :
    wpList Try.prog ops Q (o :: rest) a (wr.alloc (.cells #[.int .i64 c] 3)) := app_int hgd s x ho B v xs c hown hs (hgn ▸ hx) hlen hB h
theorem ownI.form {w : World} {B : Nat} {v : Value} {xs : List Int} (h : ownI w B v xs) : ∃ sp cap, v = .slice sp xs.length cap ∧ ∀ i (hi : i < xs.length), ∃ g, sp = some ⟨g, 0, none⟩ ∧ w.cell? ⟨g, i, none⟩ = some (.int .i64 xs[i]) := by
  rcases h.2 with ⟨rfl, hn⟩ | ⟨g, cap, cur, rfl, h1, h2, h3⟩
  · exact ⟨none, 0, by rw [hn], fun i hi => by omega⟩
  · refine ⟨some ⟨g, 0, none⟩, cap, rfl, fun i hi => ⟨g, rfl, ?_⟩⟩
    have := World.ownsRow.cellAt (g := g) (cap := cap) h i (by omega)
    rw [this]
    simp [List.getElem?_eq_getElem hi]

/-- An arena of one cell a slot, at rest: its queue and what is in use. -/
def FQ (w : World) (L : Lay) (n front count : Nat) (ring : Nat → Int) (use : Nat → Bool) : Prop :=
  ∃ S : AS, Holds w L S ∧ S.n = n ∧ S.g0 = 0 ∧ S.rc = 0 ∧ S.lk = 0 ∧ S.front = front ∧ S.count = count ∧ S.ring = ring ∧ S.use = use
theorem FQ.keeps {w w' : World} {L : Lay} {n front count : Nat} {ring : Nat → Int} {use : Nat → Bool} {P : Nat → Prop} (h : FQ w L n front count ring use) (hk : Keeps P w w') (hP : ∀ g, L.has g → ¬ P g) : FQ w' L n front count ring use := by
  obtain ⟨S, h, h1⟩ := h
  exact ⟨S, h.keeps hk hP, h1⟩
theorem FQ.below {w w' : World} {L : Lay} {n front count : Nat} {ring : Nat → Int} {use : Nat → Bool} {B : Nat} (h : FQ w L n front count ring use) (hb : Below B w w') (hB : ∀ g, L.has g → g < B) : FQ w' L n front count ring use := by
  obtain ⟨S, h, h1⟩ := h
  exact ⟨S, h.kept (fun k hk => hb.block k (hB k hk)) hb.size, h1⟩
theorem FQ.n1 {w : World} {L : Lay} {n front count : Nat} {ring : Nat → Int} {use : Nat → Bool} (h : FQ w L n front count ring use) : 1 ≤ n ∧ n ≤ 4096 := by
  obtain ⟨S, h, rfl, h1⟩ := h
  exact h.hn
theorem fq_alloc (L : Lay) (w : World) (n front count k : Nat) (ring : Nat → Int) (use : Nat → Bool) (s : ByteArray) (h : FQ w L n front count ring use) (hf : front < n) (h0 : 0 < count) (hc : count ≤ n) (hk : ring front = (k : Int) + 1) (hkn : k < n) : Calls Try.prog 13 #[.pointer (some ⟨L.b, 0, none⟩), .string s, .slice none 0 0] w fun e w' => e = .returned (.tuple #[.int .i64 ((k : Int) + 1), .int .i64 0]) ∧ FQ w' L n ((front + 1) % n) (count - 1) ring (upd use k true) ∧ Keeps L.has w w' := by
  obtain ⟨S, h, rfl, hg, hr, hl, rfl, rfl, rfl, rfl⟩ := h
  refine (alloc_ok L S w s none 0 0 k (fun _ => 0) h (fun i hi => by omega) (Nat.zero_le _) hr hl hf h0 hc hk hkn).mono ?_
  rintro e w' ⟨rfl, h', k'⟩
  exact ⟨rfl, ⟨_, h', rfl, hg, rfl, rfl, rfl, rfl, rfl, rfl⟩, k'⟩
theorem fq_full (L : Lay) (w : World) (n front : Nat) (ring : Nat → Int) (use : Nat → Bool) (s : ByteArray) (h : FQ w L n front 0 ring use) : Calls Try.prog 13 #[.pointer (some ⟨L.b, 0, none⟩), .string s, .slice none 0 0] w fun e w' => e = .returned (.tuple #[.int .i64 0, .int .i64 21]) ∧ FQ w' L n front 0 ring use ∧ Keeps L.has w w' := by
  obtain ⟨S, h, rfl, hg, hr, hl, rfl, h0, rfl, rfl⟩ := h
  refine (alloc_full L S w s none 0 0 h (Nat.zero_le _) hr hl h0).mono ?_
  rintro e w' ⟨rfl, h', k'⟩
  exact ⟨rfl, ⟨_, h', rfl, hg, rfl, rfl, rfl, h0, rfl, rfl⟩, k'⟩
theorem fq_free (L : Lay) (w : World) (n front count k : Nat) (ring : Nat → Int) (use : Nat → Bool) (h : FQ w L n front count ring use) (hf : front < n) (hc : count ≤ n) (hk : k < n) (hu : use k = true) : Calls Try.prog 14 #[.pointer (some ⟨L.b, 0, none⟩), .int .i64 ((k : Int) + 1)] w fun e w' => e = .returned (.int .i64 0) ∧ FQ w' L n front (count + 1) (upd ring ((front + count) % n) ((k : Int) + 1)) (upd use k false) ∧ Keeps L.has w w' := by
  obtain ⟨S, h, rfl, hg, hr, hl, rfl, rfl, rfl, rfl⟩ := h
  refine (free_ok L S w k h hg hr hl hk hu hf hc).mono ?_
  rintro e w' ⟨rfl, h', k'⟩
  exact ⟨rfl, ⟨_, h', rfl, rfl, rfl, rfl, rfl, rfl, rfl, rfl⟩, k'⟩
theorem fq_new (n : Nat) (w : World) (h1 : 1 ≤ n) (h2 : n ≤ 4096) : Calls Try.prog 11 #[.int .i64 (n : Int), .int .i64 1] w fun e w' => ∃ L, e = .returned (.tuple #[.pointer (some ⟨L.b, 0, none⟩), .int .i64 0]) ∧ (∀ g, L.has g → w.heap.size ≤ g) ∧ FQ w' L n 0 n (fun j => (j : Int) + 1) (fun _ => false) ∧ Below w.heap.size w w' := by
  refine (new_ok n 1 w h1 h2 (by decide) (by decide)).mono ?_
  rintro e w' ⟨s, u, rfl, hsu, h, hb⟩
  refine ⟨⟨w.heap.size + 2, s, u, w.heap.size + 3⟩, rfl, fun g hg => ?_, ⟨_, h, rfl, rfl, rfl, rfl, rfl, rfl, rfl, rfl⟩, hb⟩
  rcases hg with h | h | h | h <;> simp only [] at h <;> omega
end Go.Proofs.Ytdgkocgjihdbpaa
