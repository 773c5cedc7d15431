import Derived.Test.YtoojfoeehdoeoaaChecked
import Derived.WalkKit
import Derived.ProofKit
import Derived.Below
import Derived.OwnWalk
import Derived.Laws.OwnMore
import Derived.Laws.Rows
import Derived.Deep.RegionHeld3
import Derived.Maps.OwnSet
import Derived.Maps.AppendAt
namespace Go.Proofs.Ytoojfoeehdoeoaa
open Go.ChangeShapes Go.WideShapes Go.ChangeAt Go.RowKit Go.Maps
set_option linter.unusedVariables false
set_option maxRecDepth 100000
/-- Nothing but the blocks of B is changed. -/
structure Keeps (B : Nat → Prop) (w w' : World) : Prop where
  os : w'.os = w.os
  tape : w'.tape = w.tape
  output : w'.output = w.output
  size : w.heap.size ≤ w'.heap.size
  block : ∀ k, k < w.heap.size → ¬ B k → w'.heap[k]? = w.heap[k]?
theorem Keeps.refl (B : Nat → Prop) (w : World) : Keeps B w w := ⟨rfl, rfl, rfl, Nat.le_refl _, fun _ _ _ => rfl⟩
theorem Keeps.trans {B : Nat → Prop} {a b c : World} (h : Keeps B a b) (k : Keeps B b c) : Keeps B a c :=
  ⟨k.os.trans h.os, k.tape.trans h.tape, k.output.trans h.output, Nat.le_trans h.size k.size, fun i hi hn => (k.block i (Nat.lt_of_lt_of_le hi h.size) hn).trans (h.block i hi hn)⟩
theorem Keeps.drew {B : Nat → Prop} {a w : World} (h : Keeps B a w) : Keeps B a w.drew := ⟨h.os, h.tape, h.output, h.size, h.block⟩
theorem Keeps.setCell {B : Nat → Prop} {a w : World} (h : Keeps B a w) {p : Addr} (hp : B p.block) (u : Value) : Keeps B a (w.setCell p u) :=
  ⟨h.os, h.tape, h.output, by simpa using h.size, fun k hk hn => (Below.heap_setCell w p u k (fun e => hn (e ▸ hp))).trans (h.block k hk hn)⟩
theorem Keeps.alloc {B : Nat → Prop} {a w : World} (h : Keeps B a w) (o : Obj) : Keeps B a (w.alloc o) :=
  ⟨h.os, h.tape, h.output, by have := h.size; simp; omega, fun k hk hn => (Below.heap_alloc w o k (Nat.lt_of_lt_of_le hk h.size)).trans (h.block k hk hn)⟩
theorem Keeps.grown {B : Nat → Prop} {a w w' : World} (h : Keeps B a w) {r : Option Nat} (hg : w.grownBy w' r) (hr : ∀ k, r = some k → B k ∨ a.heap.size ≤ k) : Keeps B a w' :=
  ⟨hg.os.trans h.os, hg.tape.trans h.tape, hg.output.trans h.output, Nat.le_trans h.size hg.size, fun k hk hn => (hg.block k (Nat.lt_of_lt_of_le hk h.size) (fun e => by
    rcases hr k e.symm with h1 | h1
    · exact hn h1
    · omega)).trans (h.block k hk hn)⟩
theorem Keeps.below {B : Nat → Prop} {w w' : World} (h : Keeps B w w') {n : Nat} (hn : n ≤ w.heap.size) (hB : ∀ k, k < n → ¬ B k) : Below n w w' :=
  ⟨h.os, h.tape, h.output, h.size, fun k hk => h.block k (Nat.lt_of_lt_of_le hk hn) (hB k hk)⟩
theorem Below.keeps {w w' : World} (h : Below w.heap.size w w') (B : Nat → Prop) : Keeps B w w' := ⟨h.os, h.tape, h.output, h.size, fun k hk _ => h.block k hk⟩
theorem Keeps.mono {B B' : Nat → Prop} {w w' : World} (h : Keeps B w w') (hB : ∀ k, k < w.heap.size → B k → B' k) : Keeps B' w w' := ⟨h.os, h.tape, h.output, h.size, fun k hk hn => h.block k hk (fun e => hn (hB k hk e))⟩
theorem Keeps.cell {B : Nat → Prop} {w w' : World} (h : Keeps B w w') {p : Addr} (hp : p.block < w.heap.size) (hn : ¬ B p.block) : w'.cell? p = w.cell? p := World.cell?_of_block (w := w) (h.block p.block hp hn)
theorem Keeps.frozen {B : Nat → Prop} {w w' : World} (h : Keeps B w w') {p : Addr} (hp : p.block < w.heap.size) (hn : ¬ B p.block) : w'.frozen? p = w.frozen? p := World.frozen?_of_block (w := w) (h.block p.block hp hn)
theorem cell_lt {w : World} {g j : Nat} {v : Value} (h : w.cell? ⟨g, j, none⟩ = some v) : g < w.heap.size := by
  rcases Nat.lt_or_ge g w.heap.size with h1 | h1
  · exact h1
  · unfold World.cell? at h
    rw [Array.getElem?_eq_none h1] at h
    simp at h
theorem ownsRow_of_block {w w' : World} {B : Nat} {e : TypeId} {size : Nat} {v : Value} {n : Nat} {xs : List Value} (h : w.ownsRow B e size v n xs) (hk : ∀ g, v.ownBlock = some g → w'.heap[g]? = w.heap[g]?) : w'.ownsRow B e size v n xs := by
  refine ⟨h.1, ?_⟩
  rcases h.2 with h1 | ⟨g, cap, cur, rfl, h1, h2, h3⟩
  · exact Or.inl h1
  · exact Or.inr ⟨g, cap, cur, rfl, h1, (hk g rfl).trans h2, h3⟩
/-- A once at ⟨g, o⟩ that holds xs: its list and its map lie in blocks of F. -/
structure On {α : Type} (e k : TypeId) (size : Nat) (cs : List α → List Value) (lit : α → Lit) (w : World) (g o : Nat) (v : Value) (m : Option Nat) (F : Nat → Prop) (xs : List α) : Prop where
  c0 : w.cell? ⟨g, o, none⟩ = some v
  c1 : w.cell? ⟨g, o + 1, none⟩ = some (.map m)
  f0 : w.frozen? ⟨g, o, none⟩ = false
  f1 : w.frozen? ⟨g, o + 1, none⟩ = false
  row : w.ownsRow 0 e size v xs.length (cs xs)
  inF : ∀ b, v.ownBlock = some b → F b
  map : (m = none ∧ xs = []) ∨ ∃ mb, m = some mb ∧ F mb ∧ v.ownBlock ≠ some mb ∧ w.ownsMap (H := Unit) Try.prog k unitElem mb xs.length (setOf (.agg []) (xs.map lit))
  off : ¬ F g
  lt : ∀ b, F b → b < w.heap.size
theorem On.keeps {α : Type} {e k : TypeId} {size : Nat} {cs : List α → List Value} {lit : α → Lit} {w w' : World} {g o : Nat} {v : Value} {m : Option Nat} {F B : Nat → Prop} {xs : List α} (h : On e k size cs lit w g o v m F xs) (hk : Keeps B w w') (hg : ¬ B g) (hF : ∀ b, F b → ¬ B b) : On e k size cs lit w' g o v m F xs where
  c0 := (hk.cell (cell_lt h.c0) hg).trans h.c0
  c1 := (hk.cell (cell_lt h.c0) hg).trans h.c1
  f0 := (hk.frozen (cell_lt h.c0) hg).trans h.f0
  f1 := (hk.frozen (cell_lt h.c0) hg).trans h.f1
  row := ownsRow_of_block h.row (fun b hb => hk.block b (h.lt b (h.inF b hb)) (hF b (h.inF b hb)))
  inF := h.inF
  map := by
    rcases h.map with h1 | ⟨mb, h1, h2, h3, es, clock, h4, h5⟩
    · exact Or.inl h1
    · exact Or.inr ⟨mb, h1, h2, h3, es, clock, (hk.block mb (h.lt mb h2) (hF mb h2)).trans h4, h5⟩
  off := h.off
  lt := fun b hb => Nat.lt_of_lt_of_le (h.lt b hb) hk.size
/-- What comes of a once to which something is put. -/
def Put {α : Type} (e k : TypeId) (size : Nat) (cs : List α → List Value) (lit : α → Lit) (w : World) (g o : Nat) (F : Nat → Prop) (xs' : List α) (w' : World) : Prop :=
  ∃ v' m' F', On e k size cs lit w' g o v' m' F' xs' ∧ (∀ b, F' b → F b ∨ w.heap.size ≤ b) ∧ Keeps (fun b => b = g ∨ F b) w w' ∧ ∀ j, j ≠ o → j ≠ o + 1 → w'.cell? ⟨g, j, none⟩ = w.cell? ⟨g, j, none⟩ ∧ w'.frozen? ⟨g, j, none⟩ = w.frozen? ⟨g, j, none⟩
theorem On.later {α : Type} {e k : TypeId} {size : Nat} {cs : List α → List Value} {lit : α → Lit} {w w' : World} {g o : Nat} {v : Value} {m : Option Nat} {F : Nat → Prop} {xs : List α} (h : On e k size cs lit w g o v m F xs) (hb : Below w.heap.size w w') : On e k size cs lit w' g o v m F xs :=
  h.keeps (Below.keeps hb (fun _ => False)) (fun h => h) (fun _ _ h => h)
theorem On.drew {α : Type} {e k : TypeId} {size : Nat} {cs : List α → List Value} {lit : α → Lit} {w : World} {g o : Nat} {v : Value} {m : Option Nat} {F : Nat → Prop} {xs : List α} (h : On e k size cs lit w g o v m F xs) : On e k size cs lit w.drew g o v m F xs :=
  h.keeps ((Keeps.refl (fun _ => False) w).drew) (fun h => h) (fun _ _ h => h)
theorem cell_setOther (w : World) {p q : Addr} (u : Value) (h : q ≠ p) : (w.setCell q u).cell? p = w.cell? p := World.cell?_setCell_other _ _ _ _ h
theorem cell_al (w : World) (ob : Obj) {p : Addr} (h : p.block < w.heap.size) : (w.alloc ob).cell? p = w.cell? p := World.cell?_of_block (w := w) (Below.heap_alloc w ob _ h)
theorem frozen_al (w : World) (ob : Obj) {p : Addr} (h : p.block < w.heap.size) : (w.alloc ob).frozen? p = w.frozen? p := World.frozen?_of_block (w := w) (Below.heap_alloc w ob _ h)
theorem addr_ne {g i j : Nat} (h : i ≠ j) : (⟨g, i, none⟩ : Addr) ≠ ⟨g, j, none⟩ := fun e => h (by injection e)
theorem On.made {α : Type} {e k : TypeId} {size : Nat} {cs : List α → List Value} {lit : α → Lit} {w : World} {g o : Nat} {v : Value} {F : Nat → Prop} (h : On e k size cs lit w g o v none F []) :
    On e k size cs lit ((w.alloc (.map #[] 0)).setCell ⟨g, o + 1, none⟩ (.map (some w.heap.size))) g o v (some w.heap.size) (fun b => F b ∨ b = w.heap.size) [] where
  c0 := (cell_setOther _ _ (addr_ne (by omega))).trans ((cell_al w _ (cell_lt h.c0)).trans h.c0)
  c1 := World.cell?_setCell_same _ _ _ ((cell_al w _ (cell_lt h.c0)).trans h.c1)
  f0 := by rw [World.frozen?_setCell]; exact (frozen_al w _ (cell_lt h.c0)).trans h.f0
  f1 := by rw [World.frozen?_setCell]; exact (frozen_al w _ (cell_lt h.c0)).trans h.f1
  row := ownsRow_of_block h.row (fun b hb => (Below.heap_setCell _ _ _ _ (fun (e : b = g) => h.off (e ▸ h.inF b hb))).trans (Below.heap_alloc w _ b (h.lt b (h.inF b hb))))
  inF := fun b hb => Or.inl (h.inF b hb)
  map := Or.inr ⟨w.heap.size, rfl, Or.inr rfl, fun e => by have := h.lt _ (h.inF _ e); omega, (World.ownsMap_made w Try.prog k unitElem).setCell (by have := cell_lt h.c0; simp; omega) _⟩
  off := fun hh => by
    have := cell_lt h.c0
    rcases hh with h1 | h1
    · exact h.off h1
    · omega
  lt := fun b hb => by
    rcases hb with h1 | h1
    · have := h.lt b h1; simp; omega
    · simp; omega
theorem On.push {α : Type} {e k : TypeId} {size : Nat} {cs : List α → List Value} {lit : α → Lit} {w w3 w4 : World} {g o mb : Nat} {v v' : Value} {F : Nat → Prop} {xs : List α} {x : α} {ob : Obj} (h : On e k size cs lit w g o v (some mb) F xs)
    (hm : w3.ownsMap (H := Unit) Try.prog k unitElem mb (xs.length + 1) ((setOf (.agg []) (xs.map lit)).put (lit x) (.agg []))) (hg3 : w.grownBy w3 (some mb))
    (hrow : w4.ownsRow 0 e size v' (xs.length + 1) (cs (xs ++ [x]))) (hg4 : (w3.alloc ob).grownBy w4 v.ownBlock) (hloc : v'.ownBlock = v.ownBlock ∨ v'.ownBlock = some (w3.alloc ob).heap.size) :
    Put e k size cs lit w g o F (xs ++ [x]) (w4.setCell ⟨g, o, none⟩ v') := by
  have hgl := cell_lt h.c0
  obtain ⟨hFm, hvm⟩ : F mb ∧ v.ownBlock ≠ some mb := by
    rcases h.map with ⟨h1, _⟩ | ⟨mb', h1, h2, h3, _⟩
    · cases h1
    · injection h1 with h1; subst h1; exact ⟨h2, h3⟩
  have hml := h.lt mb hFm
  have s3 := hg3.size
  have s4 := hg4.size
  simp only [World.size_alloc] at s4 hloc
  have hgm : g ≠ mb := fun e => h.off (e ▸ hFm)
  have hgv : v.ownBlock ≠ some g := fun e => h.off (h.inF g e)
  have hbg : w4.heap[g]? = w.heap[g]? := (hg4.block g (by simp; omega) (fun e => hgv e.symm)).trans ((Below.heap_alloc w3 ob g (by omega)).trans (hg3.block g hgl (fun e => hgm (by injection e))))
  have hkeep : Keeps (fun b => b = g ∨ F b) w (w4.setCell ⟨g, o, none⟩ v') := Keeps.setCell (B := fun b => b = g ∨ F b) ((((Keeps.refl (fun b => b = g ∨ F b) w).grown hg3 (fun k hk => by injection hk with hk; exact Or.inl (Or.inr (hk ▸ hFm)))).alloc ob).grown hg4 (fun k hk => Or.inl (Or.inr (h.inF k hk)))) (p := ⟨g, o, none⟩) (Or.inl rfl) _
  have hc4 : ∀ j, w4.cell? ⟨g, j, none⟩ = w.cell? ⟨g, j, none⟩ := fun j => World.cell?_of_block (w := w) hbg
  have hf4 : ∀ j, w4.frozen? ⟨g, j, none⟩ = w.frozen? ⟨g, j, none⟩ := fun j => World.frozen?_of_block (w := w) hbg
  have hv'g : v'.ownBlock ≠ some g := by
    rcases hloc with e | e <;> rw [e]
    · exact hgv
    · intro h; injection h with h; omega
  have hv'm : v'.ownBlock ≠ some mb := by
    rcases hloc with e | e <;> rw [e]
    · exact hvm
    · intro h; injection h with h; omega
  refine ⟨v', some mb, fun b => F b ∨ v'.ownBlock = some b, ⟨?_, ?_, ?_, ?_, ?_, ?_, ?_, ?_, ?_⟩, ?_, hkeep, ?_⟩
  · exact World.cell?_setCell_same _ _ _ ((hc4 o).trans h.c0)
  · exact (cell_setOther _ _ (addr_ne (by omega))).trans ((hc4 (o + 1)).trans h.c1)
  · rw [World.frozen?_setCell]; exact (hf4 o).trans h.f0
  · rw [World.frozen?_setCell]; exact (hf4 (o + 1)).trans h.f1
  · have e1 : (xs ++ [x]).length = xs.length + 1 := by simp
    rw [e1]
    exact ownsRow_of_block hrow (fun b hb => Below.heap_setCell _ _ _ _ (fun (e : b = g) => hv'g (e ▸ hb)))
  · exact fun b hb => Or.inr hb
  · refine Or.inr ⟨mb, rfl, Or.inl hFm, hv'm, ?_⟩
    have e1 : (xs ++ [x]).length = xs.length + 1 := by simp
    rw [e1, List.map_append, List.map_singleton, setOf_snoc]
    exact ((hm.alloc ob).kept hg4 (fun e => hvm e.symm)).setCell (fun e => hgm e.symm) _
  · intro hh
    rcases hh with h1 | h1
    · exact h.off h1
    · exact hv'g h1
  · intro b hb
    rw [World.size_setCell]
    rcases hb with h1 | h1
    · have := h.lt b h1; omega
    · obtain ⟨_, h2⟩ := World.ownsRow.lt hrow b h1
      exact h2
  · intro b hb
    rcases hb with h1 | h1
    · exact Or.inl h1
    · rcases hloc with e | e
      · exact Or.inl (h.inF b (e ▸ h1))
      · rw [e] at h1; injection h1 with h1; right; omega
  · intro j h1 h2
    refine ⟨?_, ?_⟩
    · exact (cell_setOther _ _ (addr_ne (fun e => h1 e.symm))).trans (hc4 j)
    · rw [World.frozen?_setCell]; exact hf4 j
def litI (x : Int) : Lit := .int .i64 x
def cellsI (xs : List Int) : List Value := xs.map (Value.int .i64)
theorem cellsI_snoc (xs : List Int) (x : Int) : cellsI (xs ++ [x]) = cellsI xs ++ [.int .i64 x] := by simp [cellsI]
abbrev OnI := On (α := Int) 3 3 1 cellsI litI
theorem lawI : Keyed Try.prog 3 := int_keyed Try.underlying3
theorem zeroU (w : World) : (zeroValue 70).run Try.prog w = .ok (.agg #[]) w := by kernel_rfl
def isIn (xs : List Int) (x : Int) : Bool := xs.contains x
theorem has_litI (xs : List Int) (x : Int) : Maps.has (setOf (H := Unit) (.agg []) (xs.map litI)) (litI x) = isIn xs x := by
  unfold isIn
  rw [has_setOf]
  · induction xs with
    | nil => rfl
    | cons y ys ih =>
      simp only [List.map_cons, List.any_cons, ih, List.contains_cons]
      congr 1
      simp [litI, Lit.sameKey, eq_comm, BEq.beq]
  · intro y hy
    obtain ⟨z, _, rfl⟩ := List.mem_map.1 hy
    simp [litI, WideAt.IsKeyLit]
theorem keyI {x : Int} (h : (Lit.int .i64 x).wf = true) : keyOf Try.prog 3 (.int .i64 x) = some (litI x) := keyOf_int_mk Try.underlying3 h
set_option maxHeartbeats 800000 in
theorem hasI_any (w : World) (g o : Nat) (v : Value) (m : Option Nat) (F : Nat → Prop) (xs : List Int) (x : Int) (h : OnI w g o v m F xs) (hx : (Lit.int .i64 x).wf = true) :
    Calls Try.prog 22 #[.pointer (some ⟨g, o, none⟩), .int .i64 x] w fun e w' => e = .returned (.bool (isIn xs x)) ∧ Below w.heap.size w w' := by
  have h1 := h.c1
  have hkey := keyI hx
  rcases h.map with ⟨rfl, rfl⟩ | ⟨mb, rfl, hF, hne, hown⟩
  · have hn := Maps.look_nil (P := Try.prog) (w := w) true lawI Try.underlying33 (zeroU w) hkey
    simp only [if_true] at hn
    go_enter Try.func22, Try.ntmps22
    go_wp2
    go_ret
    exact ⟨rfl, (Below.refl _ _).alloc (Nat.le_refl _) _⟩
  · have hc := has_litI xs x
    have HO : Hid _ := hown
    clear hown
    go_enter Try.func22, Try.ntmps22
    go_wp2_with (at_lookup; refine wpList_lookup_own_unit _ rfl _ _ 33 rfl 3 70 lawI Try.underlying33 (zeroU _) mb xs.length _ rfl HO.out _ _ rfl hkey ?_)
    go_ret
    exact ⟨rfl, (Below.refl _ _).alloc (Nat.le_refl _) _⟩
def ins (xs : List Int) (x : Int) : List Int := if isIn xs x then xs else xs ++ [x]
theorem ins_old {xs : List Int} {x : Int} (h : isIn xs x = true) : ins xs x = xs := by unfold ins; rw [if_pos h]
theorem ins_new {xs : List Int} {x : Int} (h : isIn xs x = false) : ins xs x = xs ++ [x] := by unfold ins; rw [if_neg (by rw [h]; simp)]
theorem infoI0 : (Try.prog.info? 3).map (fun i => (i.zero, i.size, i.bytes)) = some (some (.int .i64 0), 1, 8) := by kernel_rfl
abbrev PutI := Put (α := Int) 3 3 1 cellsI litI
theorem Put.after {α : Type} {e k : TypeId} {size : Nat} {cs : List α → List Value} {lit : α → Lit} {w w1 w2 : World} {g o : Nat} {F F1 : Nat → Prop} {xs' : List α} (h : Put e k size cs lit w1 g o F1 xs' w2) (hk : Keeps (fun b => b = g ∨ F b) w w1) (hF : ∀ b, F1 b → F b ∨ w.heap.size ≤ b)
    (hj : ∀ j, j ≠ o → j ≠ o + 1 → w1.cell? ⟨g, j, none⟩ = w.cell? ⟨g, j, none⟩ ∧ w1.frozen? ⟨g, j, none⟩ = w.frozen? ⟨g, j, none⟩) : Put e k size cs lit w g o F xs' w2 := by
  obtain ⟨v', m', F', h1, h2, h3, h4⟩ := h
  refine ⟨v', m', F', h1, fun b hb => ?_, ⟨h3.os.trans hk.os, h3.tape.trans hk.tape, h3.output.trans hk.output, Nat.le_trans hk.size h3.size, fun b hb hn => ?_⟩, fun j a b => ⟨(h4 j a b).1.trans (hj j a b).1, (h4 j a b).2.trans (hj j a b).2⟩⟩
  · rcases h2 b hb with h5 | h5
    · exact hF b h5
    · right; have := hk.size; omega
  · refine (h3.block b (Nat.lt_of_lt_of_le hb hk.size) (fun e => ?_)).trans (hk.block b hb hn)
    rcases e with e | e
    · exact hn (Or.inl e)
    · rcases hF b e with h5 | h5
      · exact hn (Or.inr h5)
      · omega
theorem On.inM {α : Type} {e k : TypeId} {size : Nat} {cs : List α → List Value} {lit : α → Lit} {w : World} {g o mb : Nat} {v : Value} {F : Nat → Prop} {xs : List α} (h : On e k size cs lit w g o v (some mb) F xs) : F mb ∧ v.ownBlock ≠ some mb ∧ w.ownsMap (H := Unit) Try.prog k unitElem mb xs.length (setOf (.agg []) (xs.map lit)) := by
  rcases h.map with ⟨h1, _⟩ | ⟨mb', h1, h2, h3, h4⟩
  · cases h1
  · injection h1 with h1; subst h1; exact ⟨h2, h3, h4⟩
theorem On.g3 {α : Type} {e k : TypeId} {size : Nat} {cs : List α → List Value} {lit : α → Lit} {w w3 : World} {g o mb : Nat} {v : Value} {F : Nat → Prop} {xs : List α} (h : On e k size cs lit w g o v (some mb) F xs) (hg3 : w.grownBy w3 (some mb)) : w3.heap[g]? = w.heap[g]? :=
  hg3.block g (cell_lt h.c0) (fun e => h.off (by injection e with e; exact e ▸ h.inM.1))
theorem On.row3 {α : Type} {e k : TypeId} {size : Nat} {cs : List α → List Value} {lit : α → Lit} {w w3 : World} {g o mb : Nat} {v : Value} {F : Nat → Prop} {xs : List α} (h : On e k size cs lit w g o v (some mb) F xs) (hg3 : w.grownBy w3 (some mb)) : w3.ownsRow 0 e size v xs.length (cs xs) :=
  ownsRow_of_block h.row (fun b hb => hg3.block b (h.lt b (h.inF b hb)) (fun e => by injection e with e; subst e; exact h.inM.2.1 hb))
theorem On.g4 {α : Type} {e k : TypeId} {size : Nat} {cs : List α → List Value} {lit : α → Lit} {w w3 w4 : World} {g o mb : Nat} {v : Value} {F : Nat → Prop} {xs : List α} {ob : Obj} (h : On e k size cs lit w g o v (some mb) F xs) (hg3 : w.grownBy w3 (some mb)) (hg4 : (w3.alloc ob).grownBy w4 v.ownBlock) : w4.heap[g]? = w.heap[g]? := by
  have hgl := cell_lt h.c0
  have s3 := hg3.size
  exact (hg4.block g (by simp; omega) (fun e => h.off (h.inF g e.symm))).trans ((Below.heap_alloc w3 ob g (by omega)).trans (h.g3 hg3))
theorem row_slice {w : World} {B : Nat} {e : TypeId} {size : Nat} {v : Value} {n : Nat} {xs : List Value} (h : w.ownsRow B e size v n xs) : ∃ a l c, v = .slice a l c := by
  rcases h.2 with ⟨h1, _⟩ | ⟨g, cap, cur, h1, _⟩
  · exact ⟨_, _, _, h1⟩
  · exact ⟨_, _, _, h1⟩
theorem nilM_yes (w : World) : (binOp BinOp.eql 33 (Value.map none) (Value.map none)).run Try.prog w = .ok (.bool true) w := by kernel_rfl
theorem nilM_no (mb : Nat) (w : World) : (binOp BinOp.eql 33 (Value.map (some mb)) (Value.map none)).run Try.prog w = .ok (.bool false) w := by kernel_rfl
theorem Put.same {α : Type} {e k : TypeId} {size : Nat} {cs : List α → List Value} {lit : α → Lit} {w w1 : World} {g o : Nat} {v : Value} {m : Option Nat} {F : Nat → Prop} {xs : List α} (h : On e k size cs lit w g o v m F xs) (hb : Below w.heap.size w w1) : Put e k size cs lit w g o F xs w1 :=
  ⟨v, m, F, h.later hb, fun b hb => Or.inl hb, Below.keeps hb _, fun j _ _ => ⟨hb.cell (cell_lt h.c0), World.frozen?_of_block (w := w) (hb.block g (cell_lt h.c0))⟩⟩
set_option maxHeartbeats 1600000 in
theorem putI_any (w : World) (g o : Nat) (v : Value) (m : Option Nat) (F : Nat → Prop) (xs : List Int) (x : Int) (h : OnI w g o v m F xs) (hx : (Lit.int .i64 x).wf = true) (hl : xs.length ≤ 1000) :
    Calls Try.prog 25 #[.pointer (some ⟨g, o, none⟩), .int .i64 x] w fun e w' => e = .returned (.tuple #[]) ∧ PutI w g o F (ins xs x) w' := by
  have hmm := @run_makeMap Try.prog
  obtain ⟨i0, hi, hz0, hz1, hz2⟩ := info_parts infoI0
  have HH : Hid (OnI w g o v m F xs) := h
  have HK : Hid _ := keyI hx
  clear h
  go_enter Try.func25, Try.ntmps25
  go_wp2_with fail
  refine (hasI_any w g o v m F xs x HH.out hx).mono ?_
  rintro _ w1 ⟨rfl, hb1⟩
  have h1 := HH.out.later hb1
  have HB1 : Hid _ := hb1
  clear hb1
  cases hin : isIn xs x
  · have HIN : Hid _ := hin
    clear hin
    cases m with
    | none =>
      have hxs : xs = [] := by
        rcases h1.map with ⟨_, e⟩ | ⟨_, e, _⟩
        · exact e
        · cases e
      subst hxs
      have HM : Hid _ := h1.made
      have c1 := h1.c1
      have f1 := h1.f1
      have c1m := h1.made.c1
      have H1 : Hid _ := h1
      clear h1
      have hny := nilM_yes
      have c1a := (cell_al w1 (.map #[] 0) (p := ⟨g, o + 1, none⟩) (cell_lt c1)).trans c1
      have f1a := (frozen_al w1 (.map #[] 0) (p := ⟨g, o + 1, none⟩) (cell_lt c1)).trans f1
      go_wp2_with (first
        | (at_mapUpdate; refine wpList_mapUpdate_own _ rfl _ _ _ 33 rfl 3 70 lawI Try.underlying33 (unitElem (H := Unit)) w1.heap.size 0 _ rfl HM.out.inM.2.2 (by unfold maxLen; omega) _ _ _ rfl rfl HK.out _ [] unitElem_mk ?_; intro w3 hown3 hgrow3; have c03 := (World.cell?_of_block (a := ⟨g, o, none⟩) (HM.out.g3 hgrow3)).trans HM.out.c0; have HO3 : Hid _ := hown3; have HG3 : Hid _ := hgrow3; clear hown3 hgrow3)
        | (at_builtin; refine wpList_append_own_at _ rfl _ _ 28 rfl 0 3 i0 (.int .i64 0) 1 8 Try.underlying28 hi hz0 hz1 hz2 rfl (by decide) _ _ _ rfl ((HM.out.row3 HG3.out).alloc _) ⟨w3.heap.size, 0, none⟩ 1 1 [.int .i64 x] rfl rfl (cell_one_new _ _ _) (ints_oneCell .i64 [x]) (by unfold maxLen; simp) (by simp) (Nat.zero_le _) ?_; intro v' w4 hrow4 hgrow4 hnil4 hloc4; obtain ⟨av, lv, cv, rfl⟩ := row_slice hrow4; have c04 := (World.cell?_of_block (a := ⟨g, o, none⟩) (HM.out.g4 HG3.out hgrow4)).trans HM.out.c0; have f04 := (World.frozen?_of_block (a := ⟨g, o, none⟩) (HM.out.g4 HG3.out hgrow4)).trans HM.out.f0; have HR4 : Hid _ := hrow4; have HG4 : Hid _ := hgrow4; have HL4 : Hid _ := hloc4; clear hrow4 hgrow4 hloc4 hnil4)
        | go_in)
      refine bodyPost_end (results_none rfl _ _ _) rfl ⟨rfl, ?_⟩
      rw [ins_new HIN.out]
      have hb1 := HB1.out
      have h1 := H1.out
      refine (HM.out.push HO3.out HG3.out (by rw [cellsI_snoc]; exact HR4.out) HG4.out HL4.out).after (Keeps.setCell (B := fun b => b = g ∨ F b) ((Below.keeps hb1 _).alloc _) (p := ⟨g, o + 1, none⟩) (Or.inl rfl) _) (fun b hb => ?_) (fun j hj0 hj1 => ⟨?_, ?_⟩)
      · rcases hb with hb | hb
        · exact Or.inl hb
        · right; have := hb1.size; omega
      · exact (cell_setOther _ _ (addr_ne (fun e => hj1 e.symm))).trans ((cell_al w1 _ (cell_lt h1.c0)).trans (hb1.cell (cell_lt HH.out.c0)))
      · rw [World.frozen?_setCell]; exact (frozen_al w1 _ (cell_lt h1.c0)).trans (World.frozen?_of_block (w := w) (hb1.block g (cell_lt HH.out.c0)))
    | some mb =>
      have HM : Hid _ := h1
      have c1 := h1.c1
      clear h1
      have hny := nilM_no mb
      go_wp2_with (first
        | (at_mapUpdate; refine wpList_mapUpdate_own _ rfl _ _ _ 33 rfl 3 70 lawI Try.underlying33 (unitElem (H := Unit)) mb xs.length _ rfl HM.out.inM.2.2 (by unfold maxLen; omega) _ _ _ rfl rfl HK.out _ [] unitElem_mk ?_; intro w3 hown3 hgrow3; have c03 := (World.cell?_of_block (a := ⟨g, o, none⟩) (HM.out.g3 hgrow3)).trans HM.out.c0; have HO3 : Hid _ := hown3; have HG3 : Hid _ := hgrow3; clear hown3 hgrow3)
        | (at_builtin; refine wpList_append_own_at _ rfl _ _ 28 rfl 0 3 i0 (.int .i64 0) 1 8 Try.underlying28 hi hz0 hz1 hz2 rfl (by decide) _ _ _ rfl ((HM.out.row3 HG3.out).alloc _) ⟨w3.heap.size, 0, none⟩ 1 1 [.int .i64 x] rfl rfl (cell_one_new _ _ _) (ints_oneCell .i64 [x]) (by unfold maxLen; omega) (by omega) (Nat.zero_le _) ?_; intro v' w4 hrow4 hgrow4 hnil4 hloc4; obtain ⟨av, lv, cv, rfl⟩ := row_slice hrow4; have c04 := (World.cell?_of_block (a := ⟨g, o, none⟩) (HM.out.g4 HG3.out hgrow4)).trans HM.out.c0; have f04 := (World.frozen?_of_block (a := ⟨g, o, none⟩) (HM.out.g4 HG3.out hgrow4)).trans HM.out.f0; have HR4 : Hid _ := hrow4; have HG4 : Hid _ := hgrow4; have HL4 : Hid _ := hloc4; clear hrow4 hgrow4 hloc4 hnil4)
        | go_in)
      refine bodyPost_end (results_none rfl _ _ _) rfl ⟨rfl, ?_⟩
      rw [ins_new HIN.out]
      have hb1 := HB1.out
      refine (HM.out.push HO3.out HG3.out (by rw [cellsI_snoc]; exact HR4.out) HG4.out HL4.out).after (Below.keeps hb1 _) (fun b hb => Or.inl hb) (fun j _ _ => ⟨hb1.cell (cell_lt HH.out.c0), World.frozen?_of_block (w := w) (hb1.block g (cell_lt HH.out.c0))⟩)
  · go_wp2
    refine bodyPost_ret (results_none rfl _ _ _) rfl ⟨rfl, ?_⟩
    rw [ins_old hin]
    exact Put.same HH.out HB1.out
end Go.Proofs.Ytoojfoeehdoeoaa
