import Derived.Test.YtdgkocgjihdbpaaOpenO
import Derived.Test.YtdgkocgjihdbpaaOwnI
namespace Go.Proofs.Ytdgkocgjihdbpaa
open Go.ChangeShapes Go.WideShapes Go.ChangeAt Go.RowKit
set_option linter.unusedVariables false

/-- The slice value v holds just the numbers xs, in a row of the call's own (blocks from B on). -/
def ownU (w : World) (B : Nat) (v : Value) (xs : List Int) : Prop := w.ownsRow B 50 1 v xs.length (xs.map (Value.int .u64))
theorem ownU_nil (w : World) (B : Nat) : ownU w B (.slice none 0 0) [] := World.ownsRow_nil _ _ _ _
theorem ownU.drew {w : World} {B : Nat} {v : Value} {xs : List Int} (h : ownU w B v xs) : ownU w.drew B v xs := World.ownsRow.drew h
theorem ownU.keeps {w w' : World} {B : Nat} {v : Value} {xs : List Int} {P : Nat → Prop} (h : ownU w B v xs) (hk : Keeps P w w') (hP : ∀ g, B ≤ g → ¬ P g) : ownU w' B v xs :=
  ownsRow_of_block h (fun g hg => by obtain ⟨h1, h2⟩ := World.ownsRow.lt h g hg; exact hk.block g h2 (hP g h1))
theorem app_word {wr : World} {ops : Array Oper} {rest : List Oper} {o : Oper} {a : Act} {Q : Exit → Act → World → Prop} (hgd : o.guard = none) (s x : Operand)
    (ho : o.op = .call { callee := .builtin .append, args := #[s, x], argTypes := #[51, 51] })
    (B : Nat) (v : Value) (xs : List Int) (c : Int) (hown : ownU wr B v xs) (hs : a.eval s = v) (hx : a.eval x = .slice (some ⟨wr.heap.size, 0, none⟩) 1 1)
    (hlen : (xs.length + 1) * 8 ≤ 140737488355328) (hB : B ≤ wr.heap.size)
    (h : ∀ v' w', ownU w' B v' (xs ++ [c]) → Below B wr w' → wpList Try.prog ops Q rest (a.put o.dst v') w') :
    wpList Try.prog ops Q (o :: rest) a (wr.alloc (.cells #[.int .u64 c] 50)) := by
  obtain ⟨i0, hi, hz0, hz1, hz2⟩ := info_parts infoW
  refine wpList_append_own _ hgd s x 51 ho B 50 i0 (.int .u64 0) 1 8 Try.underlying51 hi hz0 hz1 hz2 rfl (by decide) v xs.length _ hs (World.ownsRow.alloc hown _)
    ⟨wr.heap.size, 0, none⟩ 1 1 [.int .u64 c] hx rfl ?_ ?_ (by unfold maxLen; omega) (by omega) (by simp; omega) ?_
  · intro j u hj
    match j, hj with
    | 0, hj => simp at hj; subst hj; simp [Addr.add]
  · intro u hu; simp at hu; subst hu; rfl
  · intro v' w' hown' hgrow _
    refine h v' w' ?_ ?_
    · have : (xs ++ [c]).length = xs.length + 1 := by simp
      unfold ownU; rw [this, List.map_append]; exact hown'
    · exact ((Below.refl _ _).alloc hB _).grown hgrow (by simp; omega) (fun k hk => (World.ownsRow.lt hown k hk).1)
theorem app_wordL {wr : World} {ops : Array Oper} {rest : List Oper} {o : Oper} {a : Act} {Q : Exit → Act → World → Prop} (hgd : o.guard = none) (s x : Operand)
    (ho : o.op = .call { callee := .builtin .append, args := #[s, x], argTypes := #[51, 51] })
    (B : Nat) (v : Value) (xs : List Int) (c : Int) (hown : ownU wr B v xs) (hs : a.eval s = v) (gn : Nat) (hgn : gn = wr.heap.size) (hx : a.eval x = .slice (some ⟨gn, 0, none⟩) 1 1)
    (hlen : (xs.length + 1) * 8 ≤ 140737488355328) (hB : B ≤ wr.heap.size)
    (h : ∀ v' w', ownU w' B v' (xs ++ [c]) → Below B wr w' → wpList Try.prog ops Q rest (a.put o.dst v') w') :
    wpList Try.prog ops Q (o :: rest) a (wr.alloc (.cells #[.int .u64 c] 50)) := app_word hgd s x ho B v xs c hown hs (hgn ▸ hx) hlen hB h
theorem ownU.form {w : World} {B : Nat} {v : Value} {xs : List Int} (h : ownU w B v xs) : ∃ sp cap, v = .slice sp xs.length cap ∧ ∀ i (hi : i < xs.length), ∃ g, sp = some ⟨g, 0, none⟩ ∧ w.cell? ⟨g, i, none⟩ = some (.int .u64 xs[i]) := by
  rcases h.2 with ⟨rfl, hn⟩ | ⟨g, cap, cur, rfl, h1, h2, h3⟩
  · exact ⟨none, 0, by rw [hn], fun i hi => by omega⟩
  · refine ⟨some ⟨g, 0, none⟩, cap, rfl, fun i hi => ⟨g, rfl, ?_⟩⟩
    have := World.ownsRow.cellAt (g := g) (cap := cap) h i (by omega)
    rw [this]
    simp [List.getElem?_eq_getElem hi]


/-- A list of words of one's own may be handed to an arena. -/
theorem ownU.given {w : World} {B : Nat} {v : Value} {ws : List Int} (h : ownU w B v ws) {L : Lay} (hL : ∀ g, L.has g → g < B) : ∃ sp cap, v = .slice sp ws.length cap ∧ Given w L sp ws.length (fun i => ws.getD i 0) := by
  rcases h.2 with ⟨rfl, hn⟩ | ⟨g, cap, cur, rfl, h1, h2, h3⟩
  · exact ⟨none, 0, by rw [hn], fun i hi => by omega⟩
  · refine ⟨some ⟨g, 0, none⟩, cap, rfl, fun i hi => ⟨g, 0, rfl, fun e => by have := hL g e; omega, (World.ownsRow.lt h g rfl).2, ?_⟩⟩
    have := World.ownsRow.cellAt (g := g) (cap := cap) h i (by omega)
    rw [Nat.zero_add, this]
    simp [List.getElem?_eq_getElem hi, List.getD]
theorem valW_getD (ws : List Int) (i : Nat) : valW ws.length (fun i => ws.getD i 0) i = ws.getD i 0 := by
  unfold valW
  split
  · rfl
  · rw [List.getD_eq_getElem?_getD, List.getElem?_eq_none (by omega)]; rfl
set_option maxRecDepth 100000 in
set_option maxHeartbeats 1600000 in
theorem words_any (ao : Option Addr) (cap : Nat) (ws : List Int) (w : World) (B : Nat) (hB : B ≤ w.heap.size) (h : SeesU w B ao ws) (hl : ws.length * 8 ≤ 140737488355328) : Calls Try.prog 35 #[.slice ao ws.length cap] w fun e w' => ∃ v, e = .returned v ∧ ownU w' w.heap.size v ws ∧ Below w.heap.size w w' := by
  have H : Hid (SeesU w B ao ws) := h
  clear h
  go_enter Try.func35, Try.ntmps35
  go_wp2_with fail
  go_loopw [3, 4] (fun c i wr => ∃ (t : Nat) (v : Value), t ≤ ws.length ∧ i = .int .i64 (t : Int) ∧ v = c ∧ ownU wr w.heap.size v (ws.take t) ∧ Below w.heap.size w wr) (fun _ i _ => ws.length - (intOf i).toNat)
  case atStart => exact ⟨0, _, by omega, rfl, rfl, ownU_nil _ _, Below.refl _ _⟩
  case round =>
    obtain ⟨t, v, ht, rfl, hv, hown, hb⟩ := hrel
    subst hv
    have HO : Hid (ownU wr w.heap.size v (ws.take t) ∧ Below w.heap.size w wr) := ⟨hown, hb⟩
    clear hown hb
    by_cases h4 : t < ws.length
    · obtain ⟨b, off, rfl, hbB, hc⟩ := (H.out.later (HO.out.2.mono hB)) t h4
      have hlt : (ws.take t).length = t := by simp; omega
      have htk : ws.take t ++ [ws[t]] = ws.take (t + 1) := by simp
      have HT : Hid (ws.take t ++ [ws[t]] = ws.take (t + 1)) := htk
      clear htk
      generalize ws[t] = x at *
      go_wp2_with (at_builtin; refine app_wordL (by rfl) _ _ (by rfl) w.heap.size v (ws.take t) x HO.out.1 (by rfl) wr.heap.size (by simp) (by rfl) (by rw [hlt]; omega) HO.out.2.size ?_; intro v' w2 ho2 hb2; have H9 : Hid (ownU w2 w.heap.size v' (ws.take (t + 1)) ∧ Below w.heap.size w w2) := ⟨HT.out ▸ ho2, HO.out.2.trans hb2⟩; clear ho2 hb2)
      go_roundw
      case rel => exact ⟨t + 1, _, by omega, by go_num, rfl, H9.out⟩
      case measure => simp [intOf]; omega
    · have e4 : ws.take t = ws := List.take_of_length_le (by omega)
      rw [e4] at HO
      go_wp2
      go_ret
      exact ⟨_, rfl, HO.out⟩
end Go.Proofs.Ytdgkocgjihdbpaa
