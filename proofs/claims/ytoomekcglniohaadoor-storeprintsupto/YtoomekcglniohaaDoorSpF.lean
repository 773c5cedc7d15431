import Derived.Test.YtoomekcglniohaaDoorSpE
import Derived.Test.YtoomekcglniohaaDoorSlG
namespace Go.Proofs.YtoomekcglniohaaDoor
open Go.ChangeShapes Go.WideShapes Go.ChangeAt Go.RowKit
set_option linter.unusedVariables false
set_option maxRecDepth 100000
theorem infoS0 : (Tryd.prog.info? 9).map (fun i => (i.zero, i.size, i.bytes)) = some (some (.string ⟨#[]⟩), 1, 16) := by kernel_rfl
/-- The slice value v holds just the texts xs, in a row of the call's own. -/
def ownS (w : World) (B : Nat) (v : Value) (xs : List ByteArray) : Prop := w.ownsRow B 9 1 v xs.length (xs.map Value.string)
theorem ownS_nil (w : World) (B : Nat) : ownS w B (.slice none 0 0) [] := World.ownsRow_nil _ _ _ _
theorem ownS.shape {w : World} {B : Nat} {v : Value} {vs : List ByteArray} (h : ownS w B v vs) : (v = .slice none 0 0 ∧ vs = []) ∨ ∃ g cap, v = .slice (some ⟨g, 0, none⟩) vs.length cap ∧ B ≤ g ∧ g < w.heap.size ∧ vs.length ≤ cap := by
  rcases h.2 with ⟨h', h''⟩ | ⟨g', cap', cur, h', hb, hg, hnc, hm, hs, ht⟩
  · exact .inl ⟨h', by simpa using h''⟩
  · exact .inr ⟨g', cap', h', hb, (Array.getElem?_eq_some_iff.1 hg).1, hnc⟩
theorem ownS.isSlice {w : World} {B : Nat} {v : Value} {vs : List ByteArray} (h : ownS w B v vs) : ∃ a c, v = .slice a vs.length c := by
  rcases h.shape with ⟨rfl, rfl⟩ | ⟨g, cap, rfl, _⟩
  · exact ⟨_, _, rfl⟩
  · exact ⟨_, _, rfl⟩
theorem ownS.sees {w : World} {B : Nat} {v : Value} {xs : List ByteArray} (h : ownS w B v xs) : SeesG Value.string w w.heap.size v xs := own_sees h
theorem ownS.own {w : World} {B : Nat} {v : Value} {vs : List ByteArray} (h : ownS w B v vs) : ∀ k, v.ownBlock = some k → B ≤ k ∧ k < w.heap.size := fun k hk => World.ownsRow.lt h k hk
theorem ownS.keep {w w' : World} {B : Nat} {v : Value} {xs : List ByteArray} (h : ownS w B v xs) (hk : ∀ k, v.ownBlock = some k → w'.heap[k]? = w.heap[k]?) : ownS w' B v xs := by
  rcases h with ⟨h1, h2 | ⟨g, cap, cur, rfl, hb, hg, hr⟩⟩
  · exact ⟨h1, .inl h2⟩
  · exact ⟨h1, .inr ⟨g, cap, cur, rfl, hb, by rw [hk g rfl]; exact hg, hr⟩⟩
theorem ownS.later {w w' : World} {B : Nat} {v : Value} {xs : List ByteArray} (h : ownS w B v xs) (hb : Below w.heap.size w w') : ownS w' B v xs := h.keep fun k hk => hb.block k (h.own k hk).2
theorem app_text {wr : World} {ops : Array Oper} {rest : List Oper} {o : Oper} {a : Act} {Q : Exit → Act → World → Prop} (hgd : o.guard = none) (s x : Operand)
    (ho : o.op = .call { callee := .builtin .append, args := #[s, x], argTypes := #[25, 25] })
    (B : Nat) (v : Value) (xs : List ByteArray) (c : ByteArray) (hown : ownS wr B v xs) (hs : a.eval s = v) (g : Nat) (hg : g = wr.heap.size) (hx : a.eval x = .slice (some ⟨g, 0, none⟩) 1 1)
    (hlen : (xs.length + 1) * 16 ≤ 140737488355328) (hB : B ≤ wr.heap.size)
    (h : ∀ v' w', ownS w' B v' (xs ++ [c]) → Below B wr w' → wpList Tryd.prog ops Q rest (a.put o.dst v') w') :
    wpList Tryd.prog ops Q (o :: rest) a (wr.alloc (.cells #[.string c] 9)) := by
  subst hg
  obtain ⟨i0, hi, hz0, hz1, hz2⟩ := info_parts infoS0
  refine wpList_append_own _ hgd s x 25 ho B 9 i0 (.string ⟨#[]⟩) 1 16 Tryd.underlying25 hi hz0 hz1 hz2 rfl (by decide) v xs.length _ hs (World.ownsRow.alloc hown _)
    ⟨wr.heap.size, 0, none⟩ 1 1 [.string c] hx rfl ?_ ?_ (by unfold maxLen; omega) (by omega) (by simp; omega) ?_
  · intro j u hj
    match j, hj with
    | 0, hj => simp at hj; subst hj; simp [Addr.add]
  · intro u hu; simp at hu; subst hu; rfl
  · intro v' w' hown' hgrow _
    refine h v' w' ?_ ?_
    · have : (xs ++ [c]).length = xs.length + 1 := by simp
      unfold ownS; rw [this, List.map_append]; exact hown'
    · exact ((Below.refl _ _).alloc hB _).grown hgrow (by simp; omega) (fun k hk => (World.ownsRow.lt hown k hk).1)
theorem joinT (v : Value) (B : Nat) (xs : List ByteArray) (w : World) (ho : ownS w B v xs) (hl : xs.length ≤ 1048576) (hlen : (listL (xs.map (·.data.toList))).length ≤ 70368744177664) : Calls Tryd.prog 32 #[v, .string ⟨#[44, 32]⟩] w fun e w' => e = .returned (.string (tx (listL (xs.map (·.data.toList))))) ∧ Below w.heap.size w w' := by
  rcases ho.shape with ⟨rfl, rfl⟩ | ⟨g, cap, rfl, h1, h2, h3⟩
  · refine (Tryd.strings_Join_none none 0 ⟨#[44, 32]⟩ w).mono ?_
    rintro e w' ⟨rfl, rfl⟩
    exact ⟨rfl, Below.refl _ _⟩
  · refine (Tryd.strings_Join g 0 cap xs ⟨#[44, 32]⟩ w (fun j x hj => ?_) h2 (by omega) h3 (by unfold listL at hlen; exact Nat.le_trans hlen (by omega))).mono ?_
    · obtain ⟨hj1, hj2⟩ := List.getElem?_eq_some_iff.1 hj
      obtain ⟨b, off, e1, e2⟩ := ho.sees.cell j hj1
      injection e1 with e1
      injection e1 with e1 e3
      subst e1 e3
      rw [e2, hj2]
    · rintro e w' ⟨rfl, hb⟩
      exact ⟨rfl, hb⟩
end Go.Proofs.YtoomekcglniohaaDoor
