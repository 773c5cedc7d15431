import Derived.Test.YtoojfoeehdoeoaaNt10
namespace Go.Proofs.Ytoojfoeehdoeoaa
open Go.ChangeShapes Go.WideShapes Go.ChangeAt Go.RowKit Go.Maps
set_option linter.unusedVariables false
set_option maxRecDepth 100000
def Dis (P Q : Nat → Prop) : Prop := ∀ b, P b → ¬ Q b
theorem On.beside {α : Type} {e k : TypeId} {size : Nat} {cs : List α → List Value} {lit : α → Lit} {w w' : World} {g o : Nat} {v : Value} {m : Option Nat} {F B : Nat → Prop} {xs : List α} (h : On e k size cs lit w g o v m F xs) (hk : Keeps B w w') (hF : ∀ b, F b → ¬ B b)
    (h0 : w'.cell? ⟨g, o, none⟩ = w.cell? ⟨g, o, none⟩ ∧ w'.frozen? ⟨g, o, none⟩ = w.frozen? ⟨g, o, none⟩) (h1 : w'.cell? ⟨g, o + 1, none⟩ = w.cell? ⟨g, o + 1, none⟩ ∧ w'.frozen? ⟨g, o + 1, none⟩ = w.frozen? ⟨g, o + 1, none⟩) : On e k size cs lit w' g o v m F xs where
  c0 := h0.1.trans h.c0
  c1 := h1.1.trans h.c1
  f0 := h0.2.trans h.f0
  f1 := h1.2.trans h.f1
  row := ownsRow_of_block h.row (fun b hb => hk.block b (h.lt b (h.inF b hb)) (hF b (h.inF b hb)))
  inF := h.inF
  map := by
    rcases h.map with h1 | ⟨mb, h1, h2, h3, es, clock, h4, h5⟩
    · exact Or.inl h1
    · exact Or.inr ⟨mb, h1, h2, h3, es, clock, (hk.block mb (h.lt mb h2) (hF mb h2)).trans h4, h5⟩
  off := h.off
  lt := fun b hb => Nat.lt_of_lt_of_le (h.lt b hb) hk.size
/-- The program's set in block g holds the numbers xs and the ranges rs; all of it lies in U. -/
def Ps (w : World) (g : Nat) (U : Nat → Prop) (xs : List Int) (rs : List R2) : Prop :=
  ∃ v1 m1 F1 v2 m2 F2, OnI w g 0 v1 m1 F1 xs ∧ OnR w g 2 v2 m2 F2 rs ∧ Dis F1 F2 ∧ (∀ b, b = g ∨ F1 b ∨ F2 b → U b) ∧ (∀ b, U b → b < w.heap.size)
/-- The document's set in block r likewise. -/
def Ds (w : World) (r : Nat) (U : Nat → Prop) (xs : List Int) (rs : List R2) : Prop :=
  ∃ v1 F1 v2 F2, Rn w r v1 F1 xs ∧ Rr w r v2 F2 rs ∧ Dis F1 F2 ∧ (∀ b, b = r ∨ F1 b ∨ F2 b → U b) ∧ (∀ b, U b → b < w.heap.size)
theorem Ps.keeps {w w' : World} {g : Nat} {U B : Nat → Prop} {xs : List Int} {rs : List R2} (h : Ps w g U xs rs) (hk : Keeps B w w') (hd : Dis U B) : Ps w' g U xs rs := by
  obtain ⟨v1, m1, F1, v2, m2, F2, h1, h2, h3, h4, h5⟩ := h
  exact ⟨v1, m1, F1, v2, m2, F2, h1.keeps hk (hd g (h4 g (Or.inl rfl))) (fun b hb => hd b (h4 b (Or.inr (Or.inl hb)))), h2.keeps hk (hd g (h4 g (Or.inl rfl))) (fun b hb => hd b (h4 b (Or.inr (Or.inr hb)))), h3, h4, fun b hb => Nat.lt_of_lt_of_le (h5 b hb) hk.size⟩
theorem Ds.keeps {w w' : World} {r : Nat} {U B : Nat → Prop} {xs : List Int} {rs : List R2} (h : Ds w r U xs rs) (hk : Keeps B w w') (hd : Dis U B) : Ds w' r U xs rs := by
  obtain ⟨v1, F1, v2, F2, h1, h2, h3, h4, h5⟩ := h
  exact ⟨v1, F1, v2, F2, h1.keeps hk (hd r (h4 r (Or.inl rfl))) (fun b hb => hd b (h4 b (Or.inr (Or.inl hb)))), h2.keeps hk (hd r (h4 r (Or.inl rfl))) (fun b hb => hd b (h4 b (Or.inr (Or.inr hb)))), h3, h4, fun b hb => Nat.lt_of_lt_of_le (h5 b hb) hk.size⟩
theorem Ps.later {w w' : World} {g : Nat} {U : Nat → Prop} {xs : List Int} {rs : List R2} (h : Ps w g U xs rs) (hb : Below w.heap.size w w') : Ps w' g U xs rs := h.keeps (Below.keeps hb (fun _ => False)) (fun _ _ h => h)
theorem Ds.later {w w' : World} {r : Nat} {U : Nat → Prop} {xs : List Int} {rs : List R2} (h : Ds w r U xs rs) (hb : Below w.heap.size w w') : Ds w' r U xs rs := h.keeps (Below.keeps hb (fun _ => False)) (fun _ _ h => h)
theorem Ps.lt {w : World} {g : Nat} {U : Nat → Prop} {xs : List Int} {rs : List R2} (h : Ps w g U xs rs) : ∀ b, U b → b < w.heap.size := by
  obtain ⟨v1, m1, F1, v2, m2, F2, h1, h2, h3, h4, h5⟩ := h
  exact h5
theorem Ds.lt {w : World} {r : Nat} {U : Nat → Prop} {xs : List Int} {rs : List R2} (h : Ds w r U xs rs) : ∀ b, U b → b < w.heap.size := by
  obtain ⟨v1, F1, v2, F2, h1, h2, h3, h4, h5⟩ := h
  exact h5
theorem ps_slots (w : World) (g : Nat) (U : Nat → Prop) (xs : List Int) (rs : List R2) (h : Ps w g U xs rs) (hl : xs.length ≤ 64) :
    Calls Try.prog 15 #[.pointer (some ⟨g, 0, none⟩)] w fun e w' => ∃ v', e = .returned v' ∧ ownI w' w.heap.size v' xs ∧ Below w.heap.size w w' := by
  obtain ⟨v1, m1, F1, v2, m2, F2, h1, _⟩ := h
  exact slots_any w g v1 m1 F1 xs h1 hl
theorem ps_ranges (w : World) (g : Nat) (U : Nat → Prop) (xs : List Int) (rs : List R2) (h : Ps w g U xs rs) (hl : rs.length ≤ 64) :
    Calls Try.prog 17 #[.pointer (some ⟨g, 0, none⟩)] w fun e w' => ∃ v', e = .returned v' ∧ ownRg 60 w' w.heap.size v' rs ∧ Below w.heap.size w w' := by
  obtain ⟨v1, m1, F1, v2, m2, F2, h1, h2, _⟩ := h
  exact ranges_any w g v2 m2 F2 rs h2 hl
theorem ps_has (w : World) (g : Nat) (U : Nat → Prop) (xs : List Int) (rs : List R2) (x : Int) (h : Ps w g U xs rs) (hx : (Lit.int .i64 x).wf = true) :
    Calls Try.prog 13 #[.pointer (some ⟨g, 0, none⟩), .int .i64 x] w fun e w' => e = .returned (.bool (isIn xs x)) ∧ Below w.heap.size w w' := by
  obtain ⟨v1, m1, F1, v2, m2, F2, h1, h2, _⟩ := h
  exact hasS_any w g v1 m1 F1 xs x h1 hx
/-- What comes of the program's set. -/
def PsTo (w : World) (g : Nat) (U : Nat → Prop) (xs : List Int) (rs : List R2) (w' : World) : Prop :=
  ∃ U', Ps w' g U' xs rs ∧ (∀ b, U' b → U b ∨ w.heap.size ≤ b) ∧ Keeps U w w'
def DsTo (w : World) (r : Nat) (U : Nat → Prop) (xs : List Int) (rs : List R2) (w' : World) : Prop :=
  ∃ U', Ds w' r U' xs rs ∧ (∀ b, U' b → U b ∨ w.heap.size ≤ b) ∧ Keeps U w w'
theorem ps_read (w : World) (g : Nat) (U : Nat → Prop) (xs : List Int) (rs : List R2) (ao : Option Addr) (cap : Nat) (ys : List Int) (h : Ps w g U xs rs) (hl : xs.length ≤ 64) (hs : SeesN w w.heap.size ao ys) (hy : ys.length ≤ 140737488355328) (hw : ∀ y ∈ ys, (Lit.int .i64 y).wf = true) :
    Calls Try.prog 8 #[.pointer (some ⟨g, 0, none⟩), .slice ao ys.length cap] w fun e w' => e = .returned (.int .i64 (addE xs ys)) ∧ PsTo w g U (addL xs ys) rs w' := by
  obtain ⟨v1, m1, F1, v2, m2, F2, h1, h2, h3, h4, h5⟩ := h
  refine (read_any w g v1 m1 F1 xs ao cap ys h1 hl hs hy hw).mono ?_
  rintro e w' ⟨he, v', m', F', on, sub, kp, oth⟩
  refine ⟨he, fun b => b = g ∨ F' b ∨ F2 b, ⟨v', m', F', v2, m2, F2, on, h2.beside kp ?_ (oth 2 (by omega) (by omega)) (oth 3 (by omega) (by omega)), ?_, fun b hb => hb, ?_⟩, ?_, kp.mono (fun b _ hb => h4 b (hb.imp id Or.inl))⟩
  · intro b hb hc
    rcases hc with e | e
    · exact h2.off (e ▸ hb)
    · exact h3 b e hb
  · intro b hb hc
    rcases sub b hb with e | e
    · exact h3 b e hc
    · have := h2.lt b hc; omega
  · intro b hb
    rcases hb with e | e | e
    · rw [e]; exact cell_lt on.c0
    · exact on.lt b e
    · have := h2.lt b e; have := kp.size; omega
  · intro b hb
    rcases hb with e | e | e
    · exact Or.inl (h4 b (Or.inl e))
    · exact (sub b e).imp (fun e => h4 b (Or.inr (Or.inl e))) id
    · exact Or.inl (h4 b (Or.inr (Or.inr e)))
theorem ps_look (w : World) (g : Nat) (U : Nat → Prop) (xs : List Int) (rs : List R2) (a b : ByteArray) (h : Ps w g U xs rs) (hl : rs.length ≤ 64) (hx : okR (a, b)) (hxs : ∀ y ∈ rs, okR y) :
    Calls Try.prog 11 #[.pointer (some ⟨g, 0, none⟩), .string a, .string b] w fun e w' => e = .returned (.int .i64 (addER rs (a, b))) ∧ PsTo w g U xs (addLR rs (a, b)) w' := by
  obtain ⟨v1, m1, F1, v2, m2, F2, h1, h2, h3, h4, h5⟩ := h
  refine (look_any w g v2 m2 F2 rs a b h2 hl hx hxs).mono ?_
  rintro e w' ⟨he, v', m', F', on, sub, kp, oth⟩
  refine ⟨he, fun b => b = g ∨ F1 b ∨ F' b, ⟨v1, m1, F1, v', m', F', h1.beside kp ?_ (oth 0 (by omega) (by omega)) (oth 1 (by omega) (by omega)), on, ?_, fun b hb => hb, ?_⟩, ?_, kp.mono (fun b _ hb => h4 b (hb.imp id Or.inr))⟩
  · intro b hb hc
    rcases hc with e | e
    · exact h1.off (e ▸ hb)
    · exact h3 b hb e
  · intro b hb hc
    rcases sub b hc with e | e
    · exact h3 b hb e
    · have := h1.lt b hb; omega
  · intro b hb
    rcases hb with e | e | e
    · rw [e]; exact cell_lt on.c0
    · have := h1.lt b e; have := kp.size; omega
    · exact on.lt b e
  · intro b hb
    rcases hb with e | e | e
    · exact Or.inl (h4 b (Or.inl e))
    · exact Or.inl (h4 b (Or.inr (Or.inl e)))
    · exact (sub b e).imp (fun e => h4 b (Or.inr (Or.inr e))) id
theorem ds_slots (w : World) (r : Nat) (U : Nat → Prop) (xs : List Int) (rs : List R2) (h : Ds w r U xs rs) (hl : xs.length ≤ 64) :
    Calls Try.prog 16 #[.pointer (some ⟨r, 0, none⟩)] w fun e w' => ∃ v', e = .returned v' ∧ ownI w' w.heap.size v' xs ∧ Below w.heap.size w w' := by
  obtain ⟨v1, F1, v2, F2, h1, h2, _⟩ := h
  exact refSlots_any w r v1 F1 xs h1 hl
theorem ds_ranges (w : World) (r : Nat) (U : Nat → Prop) (xs : List Int) (rs : List R2) (h : Ds w r U xs rs) (hl : rs.length ≤ 64) :
    Calls Try.prog 18 #[.pointer (some ⟨r, 0, none⟩)] w fun e w' => ∃ v', e = .returned v' ∧ ownRg 61 w' w.heap.size v' rs ∧ Below w.heap.size w w' := by
  obtain ⟨v1, F1, v2, F2, h1, h2, _⟩ := h
  exact refRanges_any w r v2 F2 rs h2 hl
theorem ds_has (w : World) (r : Nat) (U : Nat → Prop) (xs : List Int) (rs : List R2) (x : Int) (h : Ds w r U xs rs) (hl : xs.length ≤ 64) :
    Calls Try.prog 14 #[.pointer (some ⟨r, 0, none⟩), .int .i64 x] w fun e w' => e = .returned (.bool (isIn xs x)) ∧ w' = w := by
  obtain ⟨v1, F1, v2, F2, h1, h2, _⟩ := h
  exact refHasS_any w r v1 F1 xs x h1 hl
theorem Rr.beside {w w' : World} {r : Nat} {v : Value} {F B : Nat → Prop} {xs : List R2} (h : Rr w r v F xs) (hk : Keeps B w w') (hF : ∀ b, F b → ¬ B b) (h0 : w'.cell? ⟨r, 1, none⟩ = w.cell? ⟨r, 1, none⟩ ∧ w'.frozen? ⟨r, 1, none⟩ = w.frozen? ⟨r, 1, none⟩) : Rr w' r v F xs where
  c0 := h0.1.trans h.c0
  f0 := h0.2.trans h.f0
  row := ownsRow_of_block h.row (fun b hb => hk.block b (h.lt b (h.inF b hb)) (hF b (h.inF b hb)))
  inF := h.inF
  off := h.off
  lt := fun b hb => Nat.lt_of_lt_of_le (h.lt b hb) hk.size
theorem Rn.beside {w w' : World} {r : Nat} {v : Value} {F B : Nat → Prop} {xs : List Int} (h : Rn w r v F xs) (hk : Keeps B w w') (hF : ∀ b, F b → ¬ B b) (h0 : w'.cell? ⟨r, 0, none⟩ = w.cell? ⟨r, 0, none⟩ ∧ w'.frozen? ⟨r, 0, none⟩ = w.frozen? ⟨r, 0, none⟩) : Rn w' r v F xs where
  c0 := h0.1.trans h.c0
  f0 := h0.2.trans h.f0
  row := ownsRow_of_block h.row (fun b hb => hk.block b (h.lt b (h.inF b hb)) (hF b (h.inF b hb)))
  inF := h.inF
  off := h.off
  lt := fun b hb => Nat.lt_of_lt_of_le (h.lt b hb) hk.size
theorem ds_read (w : World) (r : Nat) (U : Nat → Prop) (xs : List Int) (rs : List R2) (ao : Option Addr) (cap : Nat) (ys : List Int) (h : Ds w r U xs rs) (hl : xs.length ≤ 64) (hs : SeesN w w.heap.size ao ys) (hy : (ys.length + 65) * 8 ≤ 140737488355328) :
    Calls Try.prog 10 #[.pointer (some ⟨r, 0, none⟩), .slice ao ys.length cap] w fun e w' => e = .returned (.int .i64 (addE xs ys)) ∧ DsTo w r U (addL xs ys) rs w' := by
  obtain ⟨v1, F1, v2, F2, h1, h2, h3, h4, h5⟩ := h
  refine (refRead_any w r v1 F1 xs ao cap ys h1 hl hs hy).mono ?_
  rintro e w' ⟨he, v', F', on, sub, kp, oth⟩
  refine ⟨he, fun b => b = r ∨ F' b ∨ F2 b, ⟨v', F', v2, F2, on, h2.beside kp ?_ (oth 1 (by omega)), ?_, fun b hb => hb, ?_⟩, ?_, kp.mono (fun b _ hb => h4 b (Or.inl hb))⟩
  · intro b hb hc
    exact h2.off (hc ▸ hb)
  · intro b hb hc
    rcases sub b hb with e | e
    · exact h3 b e hc
    · have := h2.lt b hc; omega
  · intro b hb
    rcases hb with e | e | e
    · rw [e]; exact cell_lt on.c0
    · exact on.lt b e
    · have := h2.lt b e; have := kp.size; omega
  · intro b hb
    rcases hb with e | e | e
    · exact Or.inl (h4 b (Or.inl e))
    · exact (sub b e).imp (fun e => h4 b (Or.inr (Or.inl e))) id
    · exact Or.inl (h4 b (Or.inr (Or.inr e)))
theorem ds_look (w : World) (r : Nat) (U : Nat → Prop) (xs : List Int) (rs : List R2) (a b : ByteArray) (h : Ds w r U xs rs) (hl : rs.length ≤ 64) :
    Calls Try.prog 12 #[.pointer (some ⟨r, 0, none⟩), .string a, .string b] w fun e w' => e = .returned (.int .i64 (addER rs (a, b))) ∧ DsTo w r U xs (addLR rs (a, b)) w' := by
  obtain ⟨v1, F1, v2, F2, h1, h2, h3, h4, h5⟩ := h
  refine (refLook_any w r v2 F2 rs a b h2 hl).mono ?_
  rintro e w' ⟨he, v', F', on, sub, kp, oth⟩
  refine ⟨he, fun b => b = r ∨ F1 b ∨ F' b, ⟨v1, F1, v', F', h1.beside kp ?_ (oth 0 (by omega)), on, ?_, fun b hb => hb, ?_⟩, ?_, kp.mono (fun b _ hb => h4 b (hb.imp id Or.inr))⟩
  · intro b hb hc
    rcases hc with e | e
    · exact h1.off (e ▸ hb)
    · exact h3 b hb e
  · intro b hb hc
    rcases sub b hc with e | e
    · exact h3 b hb e
    · have := h1.lt b hb; omega
  · intro b hb
    rcases hb with e | e | e
    · rw [e]; exact cell_lt on.c0
    · have := h1.lt b e; have := kp.size; omega
    · exact on.lt b e
  · intro b hb
    rcases hb with e | e | e
    · exact Or.inl (h4 b (Or.inl e))
    · exact Or.inl (h4 b (Or.inr (Or.inl e)))
    · exact (sub b e).imp (fun e => h4 b (Or.inr (Or.inr e))) id
/-- The program's and the document's set hold the same; all lies in W. -/
def Duo (w : World) (g r : Nat) (W : Nat → Prop) (xs : List Int) (rs : List R2) : Prop :=
  ∃ U V, Ps w g U xs rs ∧ Ds w r V xs rs ∧ Dis U V ∧ (∀ b, U b ∨ V b → W b) ∧ (∀ b, W b → b < w.heap.size) ∧ xs.length ≤ 64 ∧ rs.length ≤ 64 ∧ ∀ y ∈ rs, okR y
theorem Duo.keeps {w w' : World} {g r : Nat} {W B : Nat → Prop} {xs : List Int} {rs : List R2} (h : Duo w g r W xs rs) (hk : Keeps B w w') (hd : Dis W B) : Duo w' g r W xs rs := by
  obtain ⟨U, V, h1, h2, h3, h4, h5, h6, h7, h8⟩ := h
  exact ⟨U, V, h1.keeps hk (fun b hb => hd b (h4 b (Or.inl hb))), h2.keeps hk (fun b hb => hd b (h4 b (Or.inr hb))), h3, h4, fun b hb => Nat.lt_of_lt_of_le (h5 b hb) hk.size, h6, h7, h8⟩
theorem Duo.later {w w' : World} {g r : Nat} {W : Nat → Prop} {xs : List Int} {rs : List R2} (h : Duo w g r W xs rs) (hb : Below w.heap.size w w') : Duo w' g r W xs rs := h.keeps (Below.keeps hb (fun _ => False)) (fun _ _ h => h)
theorem Duo.lt {w : World} {g r : Nat} {W : Nat → Prop} {xs : List Int} {rs : List R2} (h : Duo w g r W xs rs) : ∀ b, W b → b < w.heap.size := by
  obtain ⟨U, V, h1, h2, h3, h4, h5, h6, h7, h8⟩ := h
  exact h5
/-- What comes of the two. -/
def DuoTo (w : World) (g r : Nat) (W : Nat → Prop) (w' : World) : Prop :=
  ∃ W' xs rs, Duo w' g r W' xs rs ∧ (∀ b, W' b → W b ∨ w.heap.size ≤ b) ∧ Keeps W w w'
theorem addL_len {xs ys : List Int} (h : xs.length ≤ 64) : (addL xs ys).length ≤ 64 := by
  unfold addL; split
  · assumption
  · exact h
theorem DuoTo.same {w w' : World} {g r : Nat} {W : Nat → Prop} {xs : List Int} {rs : List R2} (h : Duo w g r W xs rs) (hb : Below w.heap.size w w') : DuoTo w g r W w' :=
  ⟨W, xs, rs, h.later hb, fun b hb => Or.inl hb, Below.keeps hb _⟩
/-- Both halves have gone on, one behind the other, with something in between that touches neither. -/
theorem Duo.both {w0 w wa wb w' : World} {g r : Nat} {W U V B : Nat → Prop} {xs' : List Int} {rs' : List R2} (hW : ∀ b, U b ∨ V b → W b) (hWl : ∀ b, W b → b < w0.heap.size) (hd : Dis U V) (h0 : Below w0.heap.size w0 w)
    (hp : PsTo w g U xs' rs' wa) (hm : Keeps B wa wb) (hB : ∀ b, B b → w0.heap.size ≤ b ∧ b < w.heap.size) (hq : DsTo wb r V xs' rs' w') (lx : xs'.length ≤ 64) (lr : rs'.length ≤ 64) (ok : ∀ y ∈ rs', okR y) : DuoTo w0 g r W w' := by
  obtain ⟨U', p1, p2, p3⟩ := hp
  obtain ⟨V', q1, q2, q3⟩ := hq
  have s1 := p3.size
  have s2 := hm.size
  have s0 := h0.size
  have hUl : ∀ b, U b → b < w0.heap.size := fun b hb => hWl b (hW b (Or.inl hb))
  have hVl : ∀ b, V b → b < w0.heap.size := fun b hb => hWl b (hW b (Or.inr hb))
  have pb : Ps wb g U' xs' rs' := p1.keeps hm (fun b hb hc => by
    rcases p2 b hb with e | e
    · have := hUl b e; have := (hB b hc).1; omega
    · have := (hB b hc).2; omega)
  have pc : Ps w' g U' xs' rs' := pb.keeps q3 (fun b hb hc => by
    rcases p2 b hb with e | e
    · exact hd b e hc
    · have := hVl b hc; omega)
  refine ⟨fun b => U' b ∨ V' b, xs', rs', ⟨U', V', pc, q1, ?_, fun b hb => hb, ?_, lx, lr, ok⟩, ?_, ?_⟩
  · intro b hb hc
    have hlt := pb.lt b hb
    rcases q2 b hc with e | e
    · rcases p2 b hb with e' | e'
      · exact hd b e' e
      · have := hVl b e; omega
    · omega
  · intro b hb
    rcases hb with e | e
    · exact pc.lt b e
    · exact q1.lt b e
  · intro b hb
    rcases hb with e | e
    · exact (p2 b e).imp (fun e => hW b (Or.inl e)) (fun e => by omega)
    · exact (q2 b e).imp (fun e => hW b (Or.inr e)) (fun e => by omega)
  · refine ⟨q3.os.trans (hm.os.trans (p3.os.trans h0.os)), q3.tape.trans (hm.tape.trans (p3.tape.trans h0.tape)), q3.output.trans (hm.output.trans (p3.output.trans h0.output)), by have := q3.size; omega, fun k hk hn => ?_⟩
    refine (q3.block k (by omega) (fun e => hn (hW k (Or.inr e)))).trans ((hm.block k (by omega) (fun e => ?_)).trans ((p3.block k (by omega) (fun e => hn (hW k (Or.inl e)))).trans (h0.block k hk)))
    have := (hB k e).1; omega
end Go.Proofs.Ytoojfoeehdoeoaa
