import Derived.Test.YtbfjnidpjmhfiaaGreatDoorDe9
import Derived.Laws.StructEq
import Derived.Laws.AppendOwnNone
import Derived.Test.YtbfjnidpjmhfiaaGreatDoorDlP
import Derived.Maps.AppendAt
namespace Go.Proofs.YtbfjnidpjmhfiaaGreatDoor
open Go.ChangeShapes Go.WideShapes Go.ChangeAt Go.RowKit
set_option linter.unusedVariables false
set_option maxRecDepth 100000
theorem num_any (c : Int) (w : World) (h0 : 0 ≤ c) (h1 : c ≤ 1000) : Calls Tryz.prog 9 #[.int .i64 c] w fun e w' => e = .returned (.int .i64 c) ∧ w' = w := by
  go_enter Tryz.func9, Tryz.ntmps9
  go_wp2
  go_ret
  exact ⟨rfl, rfl⟩
theorem eqE (a : ER) (w : World) : (Op.equalIn 10000 33 (.agg #[.int .u64 a.beg, .int .u64 a.fin, .string a.key]) (.agg #[.int .u64 a.beg, .int .u64 a.fin, .string a.key])).run Tryz.prog w = .ok true w := by
  obtain ⟨a1, a2, a3⟩ := a
  have u3 := Tryz.underlying9
  have u4 := Tryz.underlying22
  have hbq := bytes_beq a3 a3
  rw [decide_eq_true rfl] at hbq
  have hS : Tryz.prog.underlying 33 = some (.struct (Tryz.prog.fieldsOf 33)) := by kernel_rfl
  have hp : Tryz.prog.stoodInHeld 33 = false := by kernel_rfl
  rw [show (10000 : Nat) = 9999 + 1 from rfl, run_equalIn_agg w 9999 33 _ _ hS hp]
  simp only [Program.fieldsOf, Tryz.underlying33]
  go_simp
theorem below_drewNE {B : Nat} {w : World} (n : Nat) : Below B w (w.drewN n) := by
  induction n generalizing w with
  | zero => exact Below.refl _ _
  | succ n ih => exact (ih (w := w)).drew
theorem guardE : Tryz.prog.eqGuardType Tryz.prog.depth 33 = false := by kernel_rfl
set_option maxHeartbeats 3200000 in
theorem sameGone_eq (w : World) (ao bo : Option Addr) (cap cap2 : Nat) (ps : List ER) (ha : SeesE w w.heap.size ao ps) (hb : SeesE w w.heap.size bo ps) (hl : ps.length ≤ 9000000000000) :
    Calls Tryz.prog 19 #[.slice ao ps.length cap, .slice bo ps.length cap2] w fun e w' => e = .returned (.bool true) ∧ Below w.heap.size w w' := by
  have HA : Hid _ := ha
  have HB : Hid _ := hb
  have hgd := guardE
  clear ha hb
  go_enter Tryz.func19, Tryz.ntmps19
  go_wp2_with fail
  go_loopw [5] (fun i wr => ∃ k : Nat, k ≤ ps.length ∧ i = .int .i64 k ∧ Below w.heap.size w wr) (fun i _ => ps.length - (intOf i).toNat)
  case atStart => exact ⟨0, by omega, rfl, Below.refl _ _⟩
  case round =>
    obtain ⟨k, hk1, rfl, hbel⟩ := hrel
    have HW : Hid (Below w.heap.size w wr) := hbel
    clear hbel
    by_cases h1 : k < ps.length
    · obtain ⟨b1, o1, e1, hb1, hx⟩ := HA.out k h1
      obtain ⟨x0, x1, x2⟩ := hx.later HW.out hb1
      subst e1
      obtain ⟨b2, o2, e2, hb2, hy⟩ := HB.out k h1
      obtain ⟨y0, y1, y2⟩ := hy.later HW.out hb2
      subst e2
      have hev := fun w => eqE ps[k] w
      clear hx hy
      go_wp2_with fail
      go_quiet (fail)
      go_wp2
      go_roundw
      case rel => exact ⟨k + 1, by omega, by go_num, HW.out.trans (below_drewNE _)⟩
      case measure => simp [intOf]; omega
    · go_wp2
      go_ret
      exact ⟨rfl, HW.out⟩
end Go.Proofs.YtbfjnidpjmhfiaaGreatDoor

namespace Go.Proofs.YtbfjnidpjmhfiaaGreatDoor
open Go.ChangeShapes Go.WideShapes Go.ChangeAt Go.RowKit
set_option linter.unusedVariables false
set_option maxRecDepth 100000
/-- A datum: its begin, its key, its data. -/
structure DT where
  beg : Int
  key : ByteArray
  data : ByteArray
/-- Its number is that of its type. -/
def DT.wf (d : DT) : Prop := 0 ≤ d.beg ∧ d.beg ≤ 18446744073709551615
end Go.Proofs.YtbfjnidpjmhfiaaGreatDoor

namespace Go.Proofs.YtbfjnidpjmhfiaaGreatDoor
open Go.ChangeShapes Go.WideShapes Go.ChangeAt Go.RowKit
set_option linter.unusedVariables false
set_option maxRecDepth 100000
/-- A datum lies in three cells. -/
structure DtAt (w : World) (b o : Nat) (p : DT) : Prop where
  c0 : w.cell? ⟨b, o, none⟩ = some (.int .u64 p.beg)
  c1 : w.cell? ⟨b, o + 1, none⟩ = some (.string p.key)
  c2 : w.cell? ⟨b, o + 2, none⟩ = some (.string p.data)
theorem DtAt.later {w w' : World} {B b o : Nat} {p : DT} (h : DtAt w b o p) (hb : Below B w w') (hB : b < B) : DtAt w' b o p :=
  ⟨(hb.cell hB).trans h.c0, (hb.cell hB).trans h.c1, (hb.cell hB).trans h.c2⟩
/-- The data ps lie at ao, in blocks below B. -/
def SeesT (w : World) (B : Nat) (ao : Option Addr) (ps : List DT) : Prop := ∀ i (hi : i < ps.length), ∃ b off, ao = some ⟨b, off, none⟩ ∧ b < B ∧ DtAt w b (off + i * 3) ps[i]
theorem SeesT.later {w w' : World} {B : Nat} {ao : Option Addr} {ps : List DT} (h : SeesT w B ao ps) (hb : Below B w w') : SeesT w' B ao ps := fun i hi => by
  obtain ⟨b, off, e, hbB, c⟩ := h i hi
  exact ⟨b, off, e, hbB, c.later hb hbB⟩
theorem infoT : (Tryz.prog.info? 31).map (fun i => (i.zero, i.size, i.bytes)) = some (some (.agg #[.int .u64 0, .string ⟨#[]⟩, .string ⟨#[]⟩]), 3, 40) := by kernel_rfl
def cellT (a : DT) : List Value := [.int .u64 a.beg, .string a.key, .string a.data]
def cellsT (vs : List DT) : List Value := vs.flatMap cellT
theorem cellsT_cons (v : DT) (vs : List DT) : cellsT (v :: vs) = .int .u64 v.beg :: .string v.key :: .string v.data :: cellsT vs := rfl
theorem cellsT_len : ∀ vs, (cellsT vs).length = vs.length * 3
  | [] => rfl
  | v :: vs => by
    rw [cellsT_cons]
    simp only [List.length_cons, cellsT_len vs]; omega
theorem cellsT_app (xs ys : List DT) : cellsT (xs ++ ys) = cellsT xs ++ cellsT ys := by simp [cellsT]
structure DtIn (l : List Value) (o : Nat) (p : DT) : Prop where
  c0 : l[o]? = some (.int .u64 p.beg)
  c1 : l[o + 1]? = some (.string p.key)
  c2 : l[o + 2]? = some (.string p.data)
theorem cellsT_get : ∀ (vs : List DT) (i : Nat) (hi : i < vs.length), DtIn (cellsT vs) (i * 3) vs[i]
  | v :: vs, 0, _ => by constructor <;> simp [cellsT_cons]
  | v :: vs, i + 1, hi => by
    have := cellsT_get vs i (by simp at hi; omega)
    obtain ⟨h0, h1, h2⟩ := this
    rw [cellsT_cons, show (i + 1) * 3 = i * 3 + 1 + 1 + 1 from by omega]
    constructor <;> simpa
theorem cellsT_one (vs : List DT) : ∀ u ∈ cellsT vs, u.oneCell' = true := by
  intro u hu
  unfold cellsT at hu
  obtain ⟨p, _, hp⟩ := List.mem_flatMap.1 hu
  simp [cellT] at hp
  rcases hp with rfl | rfl | rfl <;> rfl
/-- The slice value v holds just the data vs, in a row of the call's own. -/
def ownT (w : World) (B : Nat) (v : Value) (vs : List DT) : Prop := w.ownsRow B 31 3 v vs.length (cellsT vs)
theorem ownT_nil (w : World) (B : Nat) : ownT w B (.slice none 0 0) [] := World.ownsRow_nil _ _ _ _
theorem ownT.shape {w : World} {B : Nat} {v : Value} {vs : List DT} (h : ownT w B v vs) : (v = .slice none 0 0 ∧ vs = []) ∨ ∃ g cap, v = .slice (some ⟨g, 0, none⟩) vs.length cap ∧ B ≤ g ∧ g < w.heap.size := by
  rcases h.2 with ⟨h', h''⟩ | ⟨g', cap', cur, h', hb, hg, hnc, hm, hs, ht⟩
  · exact .inl ⟨h', List.length_eq_zero_iff.1 h''⟩
  · exact .inr ⟨g', cap', h', hb, (Array.getElem?_eq_some_iff.1 hg).1⟩
theorem ownT.slice {w : World} {B : Nat} {v : Value} {vs : List DT} (h : ownT w B v vs) : ∃ ao cap, v = .slice ao vs.length cap ∧ (ao = none → vs = [] ∧ cap = 0) ∧ (∀ ad, ao = some ad → ∃ b, ad = ⟨b, 0, none⟩ ∧ B ≤ b ∧ b < w.heap.size) := by
  rcases h.shape with ⟨rfl, rfl⟩ | ⟨g, cap, rfl, h1, h2⟩
  · exact ⟨none, 0, rfl, fun _ => ⟨rfl, rfl⟩, fun ad h => by cases h⟩
  · refine ⟨_, _, rfl, (fun h => by cases h), fun ad h => ?_⟩
    cases h
    exact ⟨g, rfl, h1, h2⟩
theorem ownT.isSlice {w : World} {B : Nat} {v : Value} {vs : List DT} (h : ownT w B v vs) : ∃ a n c, v = .slice a n c := by
  obtain ⟨ao, cap, e, _⟩ := h.slice
  exact ⟨_, _, _, e⟩
theorem ownT.sees {w : World} {B : Nat} {ao : Option Addr} {n cap : Nat} {vs : List DT} (h : ownT w B (.slice ao n cap) vs) : SeesT w w.heap.size ao vs := by
  have hh := h
  intro i hi
  rcases h.2 with ⟨h', h''⟩ | ⟨g', cap', cur, h', hb, hg, hnc, hm, hs, ht⟩
  · omega
  · simp only [Value.slice.injEq] at h'
    obtain ⟨rfl, rfl, rfl⟩ := h'
    refine ⟨g', 0, rfl, (Array.getElem?_eq_some_iff.1 hg).1, ?_⟩
    unfold ownT at hh
    obtain ⟨c0, c1, c2⟩ := cellsT_get vs i hi
    constructor
    · rw [show 0 + i * 3 = i * 3 from by omega, World.ownsRow.cellAt hh _ (by omega)]; exact c0
    · rw [show 0 + i * 3 + 1 = i * 3 + 1 from by omega, World.ownsRow.cellAt hh _ (by omega)]; exact c1
    · rw [show 0 + i * 3 + 2 = i * 3 + 2 from by omega, World.ownsRow.cellAt hh _ (by omega)]; exact c2
theorem ownT.same {w w' : World} {B : Nat} {v : Value} {xs : List DT} (h : ownT w B v xs) (hk : ∀ k, k < w.heap.size → B ≤ k → w'.heap[k]? = w.heap[k]?) : ownT w' B v xs := by
  rcases h with ⟨h1, h2 | ⟨g, cap, cur, rfl, hb, hg, hr⟩⟩
  · exact ⟨h1, .inl h2⟩
  · exact ⟨h1, .inr ⟨g, cap, cur, rfl, hb, by rw [hk g (Array.getElem?_eq_some_iff.1 hg).1 hb]; exact hg, hr⟩⟩
theorem ownT.alloc {w : World} {B : Nat} {v : Value} {xs : List DT} (h : ownT w B v xs) (o : Obj) : ownT (w.alloc o) B v xs := World.ownsRow.alloc h o
theorem ownT.mono {w : World} {B C : Nat} {v : Value} {xs : List DT} (h : ownT w B v xs) (hc : C ≤ B) : ownT w C v xs := by
  refine ⟨h.1, ?_⟩
  rcases h.2 with h1 | ⟨g, cap, cur, e, h1, h2⟩
  · exact .inl h1
  · exact .inr ⟨g, cap, cur, e, Nat.le_trans hc h1, h2⟩
theorem ownT.later {w w' : World} {B : Nat} {v : Value} {xs : List DT} (h : ownT w B v xs) (hb : Below w.heap.size w w') : ownT w' B v xs := h.same fun k hk _ => hb.block k hk
theorem ownT.own {w : World} {B : Nat} {v : Value} {vs : List DT} (h : ownT w B v vs) : ∀ k, v.ownBlock = some k → B ≤ k ∧ k < w.heap.size := fun k hk => World.ownsRow.lt h k hk
theorem ownT.keep {w w' : World} {B : Nat} {v : Value} {xs : List DT} (h : ownT w B v xs) (hk : ∀ k, v.ownBlock = some k → w'.heap[k]? = w.heap[k]?) : ownT w' B v xs := by
  rcases h with ⟨h1, h2 | ⟨g, cap, cur, rfl, hb, hg, hr⟩⟩
  · exact ⟨h1, .inl h2⟩
  · exact ⟨h1, .inr ⟨g, cap, cur, rfl, hb, by rw [hk g rfl]; exact hg, hr⟩⟩
theorem app_dt {wr : World} {ops : Array Oper} {rest : List Oper} {o : Oper} {a : Act} {Q : Exit → Act → World → Prop} (hgd : o.guard = none) (s x : Operand)
    (ho : o.op = .call { callee := .builtin .append, args := #[s, x], argTypes := #[23, 23] })
    (B : Nat) (v : Value) (vs : List DT) (c : DT) (hown : ownT wr B v vs) (hs : a.eval s = v) (g : Nat) (hg : g = wr.heap.size) (hx : a.eval x = .slice (some ⟨g, 0, none⟩) 1 1)
    (hlen : (vs.length + 1) * 40 ≤ 140737488355328) (hB : B ≤ wr.heap.size)
    (h : ∀ v' w', ownT w' B v' (vs ++ [c]) → Below B wr w' → (∀ k, k < wr.heap.size → some k ≠ v.ownBlock → w'.heap[k]? = wr.heap[k]?) → wpList Tryz.prog ops Q rest (a.put o.dst v') w') :
    wpList Tryz.prog ops Q (o :: rest) a (wr.alloc (.cells #[.int .u64 c.beg, .string c.key, .string c.data] 31)) := by
  subst hg
  obtain ⟨i0, hi, hz0, hz1, hz2⟩ := info_parts infoT
  refine wpList_append_own _ hgd s x 23 ho B 31 i0 _ 3 40 Tryz.underlying23 hi hz0 hz1 hz2 rfl (by decide) v vs.length _ hs (World.ownsRow.alloc hown _)
    ⟨wr.heap.size, 0, none⟩ 1 1 (cellT c) hx rfl ?_ ?_ (by unfold maxLen; omega) (by omega) (by simp; omega) ?_
  · intro j u hj
    match j, hj with
    | 0, hj => simp [cellT] at hj; subst hj; simp [Addr.add]
    | 1, hj => simp [cellT] at hj; subst hj; simp [Addr.add]
    | 2, hj => simp [cellT] at hj; subst hj; simp [Addr.add]
  · intro u hu; exact cellsT_one [c] u (by simpa [cellsT] using hu)
  · intro v' w' hown' hgrow _
    refine h v' w' ?_ ?_ (fun k hk hne => (hgrow.block k (by simp; omega) hne).trans (Below.heap_alloc _ _ k hk))
    · have : (vs ++ [c]).length = vs.length + 1 := by simp
      unfold ownT; rw [this, cellsT_app, show cellsT [c] = cellT c from by simp [cellsT]]; exact hown'
    · exact ((Below.refl _ _).alloc hB _).grown hgrow (by simp; omega) (fun k hk => (World.ownsRow.lt hown k hk).1)
theorem ErAt.at {w : World} {b o : Nat} {p : ER} (h : ErAt w b o p) {j : Nat} {u : Value} (hj : (cellE p)[j]? = some u) : w.cell? ⟨b, o + j, none⟩ = some u := by
  obtain ⟨c0, c1, c2⟩ := h
  match j, hj with
  | 0, hj => simp [cellE] at hj; subst hj; exact c0
  | 1, hj => simp [cellE] at hj; subst hj; exact c1
  | 2, hj => simp [cellE] at hj; subst hj; exact c2
  | j + 3, hj => simp [cellE] at hj
theorem cellsE_at : ∀ (vs : List ER) (j : Nat) (u : Value), (cellsE vs)[j]? = some u → ∃ hi : j / 3 < vs.length, (cellE vs[j / 3])[j % 3]? = some u
  | [], j, u, h => by simp [cellsE] at h
  | v :: vs, j, u, h => by
    rw [show cellsE (v :: vs) = cellE v ++ cellsE vs from rfl] at h
    have hl : (cellE v).length = 3 := rfl
    by_cases hj : j < 3
    · rw [List.getElem?_append_left (by omega)] at h
      refine ⟨by simp; omega, ?_⟩
      have e1 : j / 3 = 0 := by omega
      have e2 : j % 3 = j := by omega
      simp only [e1, e2, List.getElem_cons_zero]
      exact h
    · rw [List.getElem?_append_right (by omega), hl] at h
      obtain ⟨hi, hu⟩ := cellsE_at vs (j - 3) u h
      have e1 : j / 3 = (j - 3) / 3 + 1 := by omega
      have e2 : j % 3 = (j - 3) % 3 := by omega
      refine ⟨by simp; omega, ?_⟩
      simp only [e1, e2, List.getElem_cons_succ]
      exact hu
theorem SeesE.at {w : World} {B : Nat} {b off : Nat} {vs : List ER} (h : SeesE w B (some ⟨b, off, none⟩) vs) {j : Nat} {u : Value} (hj : (cellsE vs)[j]? = some u) : w.cell? ⟨b, off + j, none⟩ = some u := by
  obtain ⟨hi, hu⟩ := cellsE_at vs j u hj
  obtain ⟨b', off', e, _, hp⟩ := h _ hi
  simp only [Option.some.injEq, Addr.mk.injEq, and_true] at e
  obtain ⟨rfl, rfl⟩ := e
  have := hp.at hu
  rwa [show off + j / 3 * 3 + j % 3 = off + j from by omega] at this
theorem app_ers {w : World} {ops : Array Oper} {rest : List Oper} {o : Oper} {a : Act} {Q : Exit → Act → World → Prop} (hgd : o.guard = none) (s x : Operand)
    (ho : o.op = .call { callee := .builtin .append, args := #[s, x], argTypes := #[24, 24] })
    (B C : Nat) (v : Value) (xs : List ER) (hown : ownE w B v xs) (hs : a.eval s = v) (ao : Option Addr) (cap : Nat) (vs : List ER) (hx : a.eval x = .slice ao vs.length cap) (hsee : SeesE w C ao vs) (hcap : ao = none → vs = [] ∧ cap = 0)
    (hao : ∀ ad, ao = some ad → vs ≠ [] → ∃ b off, ad = ⟨b, off, none⟩) (hlen : (xs.length + vs.length) * 32 ≤ 140737488355328) (hB : B ≤ w.heap.size)
    (h : ∀ v' w', ownE w' B v' (xs ++ vs) → w.grownBy w' v.ownBlock → wpList Tryz.prog ops Q rest (a.put o.dst v') w') :
    wpList Tryz.prog ops Q (o :: rest) a w := by
  obtain ⟨i0, hi, hz0, hz1, hz2⟩ := info_parts infoE
  match ao, hx, hsee, hcap, hao with
  | none, hx, hsee, hcap, _ =>
    obtain ⟨rfl, rfl⟩ := hcap rfl
    refine wpList_append_own_none hgd s x 24 ho B 33 i0 3 Tryz.underlying24 hi v xs.length _ hs hown hx (h v w ?_ ⟨rfl, rfl, rfl, Nat.le_refl _, fun _ _ _ => rfl⟩)
    rw [List.append_nil]; exact hown
  | some ad, hx, hsee, _, hao =>
    refine wpList_append_own _ hgd s x 24 ho B 33 i0 _ 3 32 Tryz.underlying24 hi hz0 hz1 hz2 rfl (by decide) v xs.length _ hs hown
      ad vs.length cap (cellsE vs) hx (cellsE_len vs) ?_ (cellsE_one vs) (by unfold maxLen; omega) hlen hB ?_
    · intro j u hj
      obtain ⟨b, off, rfl⟩ := hao ad rfl (fun e => by rw [e] at hj; simp [cellsE] at hj)
      have ea : (⟨b, off, none⟩ : Addr).add j = ⟨b, off + j, none⟩ := by unfold Addr.add; split <;> simp_all
      rw [ea]
      exact hsee.at hj
    · intro v' w' hown' hgrow _
      refine h v' w' ?_ hgrow
      unfold ownE
      rw [List.length_append, cellsE_app]
      exact hown'
theorem own_litE0 (w : World) : ownE (w.alloc (.cells #[] 33)) w.heap.size (.slice (some ⟨w.heap.size, 0, none⟩) 0 0) [] := World.ownsRow_made w #[] 0 (Nat.le_refl _) (by decide) rfl
theorem DtAt.at {w : World} {b o : Nat} {p : DT} (h : DtAt w b o p) {j : Nat} {u : Value} (hj : (cellT p)[j]? = some u) : w.cell? ⟨b, o + j, none⟩ = some u := by
  obtain ⟨c0, c1, c2⟩ := h
  match j, hj with
  | 0, hj => simp [cellT] at hj; subst hj; exact c0
  | 1, hj => simp [cellT] at hj; subst hj; exact c1
  | 2, hj => simp [cellT] at hj; subst hj; exact c2
  | j + 3, hj => simp [cellT] at hj
theorem cellsT_at : ∀ (vs : List DT) (j : Nat) (u : Value), (cellsT vs)[j]? = some u → ∃ hi : j / 3 < vs.length, (cellT vs[j / 3])[j % 3]? = some u
  | [], j, u, h => by simp [cellsT] at h
  | v :: vs, j, u, h => by
    rw [show cellsT (v :: vs) = cellT v ++ cellsT vs from rfl] at h
    have hl : (cellT v).length = 3 := rfl
    by_cases hj : j < 3
    · rw [List.getElem?_append_left (by omega)] at h
      refine ⟨by simp; omega, ?_⟩
      have e1 : j / 3 = 0 := by omega
      have e2 : j % 3 = j := by omega
      simp only [e1, e2, List.getElem_cons_zero]
      exact h
    · rw [List.getElem?_append_right (by omega), hl] at h
      obtain ⟨hi, hu⟩ := cellsT_at vs (j - 3) u h
      have e1 : j / 3 = (j - 3) / 3 + 1 := by omega
      have e2 : j % 3 = (j - 3) % 3 := by omega
      refine ⟨by simp; omega, ?_⟩
      simp only [e1, e2, List.getElem_cons_succ]
      exact hu
theorem SeesT.at {w : World} {B : Nat} {b off : Nat} {vs : List DT} (h : SeesT w B (some ⟨b, off, none⟩) vs) {j : Nat} {u : Value} (hj : (cellsT vs)[j]? = some u) : w.cell? ⟨b, off + j, none⟩ = some u := by
  obtain ⟨hi, hu⟩ := cellsT_at vs j u hj
  obtain ⟨b', off', e, _, hp⟩ := h _ hi
  simp only [Option.some.injEq, Addr.mk.injEq, and_true] at e
  obtain ⟨rfl, rfl⟩ := e
  have := hp.at hu
  rwa [show off + j / 3 * 3 + j % 3 = off + j from by omega] at this
theorem app_dts {w : World} {ops : Array Oper} {rest : List Oper} {o : Oper} {a : Act} {Q : Exit → Act → World → Prop} (hgd : o.guard = none) (s x : Operand)
    (ho : o.op = .call { callee := .builtin .append, args := #[s, x], argTypes := #[23, 23] })
    (B C : Nat) (v : Value) (xs : List DT) (hown : ownT w B v xs) (hs : a.eval s = v) (ao : Option Addr) (cap : Nat) (vs : List DT) (hx : a.eval x = .slice ao vs.length cap) (hsee : SeesT w C ao vs) (hcap : ao = none → vs = [] ∧ cap = 0)
    (hao : ∀ ad, ao = some ad → vs ≠ [] → ∃ b off, ad = ⟨b, off, none⟩) (hlen : (xs.length + vs.length) * 40 ≤ 140737488355328) (hB : B ≤ w.heap.size)
    (h : ∀ v' w', ownT w' B v' (xs ++ vs) → w.grownBy w' v.ownBlock → wpList Tryz.prog ops Q rest (a.put o.dst v') w') :
    wpList Tryz.prog ops Q (o :: rest) a w := by
  obtain ⟨i0, hi, hz0, hz1, hz2⟩ := info_parts infoT
  match ao, hx, hsee, hcap, hao with
  | none, hx, hsee, hcap, _ =>
    obtain ⟨rfl, rfl⟩ := hcap rfl
    refine wpList_append_own_none hgd s x 23 ho B 31 i0 3 Tryz.underlying23 hi v xs.length _ hs hown hx (h v w ?_ ⟨rfl, rfl, rfl, Nat.le_refl _, fun _ _ _ => rfl⟩)
    rw [List.append_nil]; exact hown
  | some ad, hx, hsee, _, hao =>
    refine wpList_append_own _ hgd s x 23 ho B 31 i0 _ 3 40 Tryz.underlying23 hi hz0 hz1 hz2 rfl (by decide) v xs.length _ hs hown
      ad vs.length cap (cellsT vs) hx (cellsT_len vs) ?_ (cellsT_one vs) (by unfold maxLen; omega) hlen hB ?_
    · intro j u hj
      obtain ⟨b, off, rfl⟩ := hao ad rfl (fun e => by rw [e] at hj; simp [cellsT] at hj)
      have ea : (⟨b, off, none⟩ : Addr).add j = ⟨b, off + j, none⟩ := by unfold Addr.add; split <;> simp_all
      rw [ea]
      exact hsee.at hj
    · intro v' w' hown' hgrow _
      refine h v' w' ?_ hgrow
      unfold ownT
      rw [List.length_append, cellsT_app]
      exact hown'
theorem own_litT0 (w : World) : ownT (w.alloc (.cells #[] 31)) w.heap.size (.slice (some ⟨w.heap.size, 0, none⟩) 0 0) [] := World.ownsRow_made w #[] 0 (Nat.le_refl _) (by decide) rfl
theorem eqT (a : DT) (w : World) : (Op.equalIn 10000 31 (.agg #[.int .u64 a.beg, .string a.key, .string a.data]) (.agg #[.int .u64 a.beg, .string a.key, .string a.data])).run Tryz.prog w = .ok true w := by
  obtain ⟨a1, a2, a3⟩ := a
  have u3 := Tryz.underlying9
  have u4 := Tryz.underlying22
  have hbq := bytes_beq a3 a3
  rw [decide_eq_true rfl] at hbq
  have hbq2 := bytes_beq a2 a2
  rw [decide_eq_true rfl] at hbq2
  have hS : Tryz.prog.underlying 31 = some (.struct (Tryz.prog.fieldsOf 31)) := by kernel_rfl
  have hp : Tryz.prog.stoodInHeld 31 = false := by kernel_rfl
  rw [show (10000 : Nat) = 9999 + 1 from rfl, run_equalIn_agg w 9999 31 _ _ hS hp]
  simp only [Program.fieldsOf, Tryz.underlying31]
  go_simp
theorem guardT : Tryz.prog.eqGuardType Tryz.prog.depth 31 = false := by kernel_rfl
set_option maxHeartbeats 3200000 in
theorem sameData_eq (w : World) (ao bo : Option Addr) (cap cap2 : Nat) (ps : List DT) (ha : SeesT w w.heap.size ao ps) (hb : SeesT w w.heap.size bo ps) (hl : ps.length ≤ 9000000000000) :
    Calls Tryz.prog 15 #[.slice ao ps.length cap, .slice bo ps.length cap2] w fun e w' => e = .returned (.bool true) ∧ Below w.heap.size w w' := by
  have HA : Hid _ := ha
  have HB : Hid _ := hb
  have hgd := guardT
  clear ha hb
  go_enter Tryz.func15, Tryz.ntmps15
  go_wp2_with fail
  go_loopw [5] (fun i wr => ∃ k : Nat, k ≤ ps.length ∧ i = .int .i64 k ∧ Below w.heap.size w wr) (fun i _ => ps.length - (intOf i).toNat)
  case atStart => exact ⟨0, by omega, rfl, Below.refl _ _⟩
  case round =>
    obtain ⟨k, hk1, rfl, hbel⟩ := hrel
    have HW : Hid (Below w.heap.size w wr) := hbel
    clear hbel
    by_cases h1 : k < ps.length
    · obtain ⟨b1, o1, e1, hb1, hx⟩ := HA.out k h1
      obtain ⟨x0, x1, x2⟩ := hx.later HW.out hb1
      subst e1
      obtain ⟨b2, o2, e2, hb2, hy⟩ := HB.out k h1
      obtain ⟨y0, y1, y2⟩ := hy.later HW.out hb2
      subst e2
      have hev := fun w => eqT ps[k] w
      clear hx hy
      go_wp2_with fail
      go_quiet (fail)
      go_wp2
      go_roundw
      case rel => exact ⟨k + 1, by omega, by go_num, HW.out.trans (below_drewNE _)⟩
      case measure => simp [intOf]; omega
    · go_wp2
      go_ret
      exact ⟨rfl, HW.out⟩
end Go.Proofs.YtbfjnidpjmhfiaaGreatDoor

namespace Go.Proofs.YtbfjnidpjmhfiaaGreatDoor
open Go.ChangeShapes Go.WideShapes Go.ChangeAt Go.RowKit
set_option linter.unusedVariables false
set_option maxRecDepth 100000
theorem Fp6.set3 {W : World} {g : Nat} {a b c d e f : Value} (h : Fp6 W g a b c d e f) (v : Value) : Fp6 (W.setCell ⟨g, 3, none⟩ v) g a b c v e f := by
  unfold Fp6 at h ⊢
  simp [World.setCell, Array.getElem?_modify, h]
/-- A copy of a pair of files. -/
def TwD (w : World) (id lo hi gen : Int) (ds : List DT) (es : List ER) (e : Ending) (w' : World) : Prop := Below w.heap.size w w' ∧ ∃ v u, e = .returned (.agg #[.int .i64 id, .int .u64 lo, .int .u64 hi, v, .int .i64 gen, u]) ∧ ownT w' w.heap.size v ds ∧ ownE w' w.heap.size u es
set_option maxHeartbeats 6400000 in
theorem twin_any (w : World) (id lo hi gen : Int) (da ao : Option Addr) (dc cap : Nat) (ds : List DT) (es : List ER) (hd : SeesT w w.heap.size da ds) (hdc : da = none → ds = [] ∧ dc = 0) (hda : ∀ ad, da = some ad → ds ≠ [] → ∃ b off, ad = ⟨b, off, none⟩) (hdl : ds.length * 40 ≤ 140737488355328)
    (he : SeesE w w.heap.size ao es) (hcap : ao = none → es = [] ∧ cap = 0) (hao : ∀ ad, ao = some ad → es ≠ [] → ∃ b off, ad = ⟨b, off, none⟩) (hl : es.length * 32 ≤ 140737488355328) :
    Calls Tryz.prog 6 #[.agg #[.int .i64 id, .int .u64 lo, .int .u64 hi, .slice da ds.length dc, .int .i64 gen, .slice ao es.length cap]] w (TwD w id lo hi gen ds es) := by
  have HD : Hid _ := hd
  have HDc : Hid _ := hdc
  have HDa : Hid _ := hda
  have HE : Hid _ := he
  have HCp : Hid _ := hcap
  have HAo : Hid _ := hao
  clear hd hdc hda he hcap hao
  have HB3 : Hid (Below w.heap.size w (((w.alloc (.cells #[.int .i64 id, .int .u64 lo, .int .u64 hi, .slice da ds.length dc, .int .i64 gen, .slice ao es.length cap] 26)).alloc (.cells #[.int .i64 0, .int .u64 0, .int .u64 0, .slice none 0 0, .int .i64 0, .slice none 0 0] 26)).alloc (.cells #[.int .i64 id, .int .u64 lo, .int .u64 hi, .slice da ds.length dc, .int .i64 gen, .slice ao es.length cap] 26))) := (((Below.refl _ _).alloc (Nat.le_refl _) _).alloc (by simp) _).alloc (by simp; omega) _
  have HSz : Hid ((((w.alloc (.cells #[.int .i64 id, .int .u64 lo, .int .u64 hi, .slice da ds.length dc, .int .i64 gen, .slice ao es.length cap] 26)).alloc (.cells #[.int .i64 0, .int .u64 0, .int .u64 0, .slice none 0 0, .int .i64 0, .slice none 0 0] 26)).alloc (.cells #[.int .i64 id, .int .u64 lo, .int .u64 hi, .slice da ds.length dc, .int .i64 gen, .slice ao es.length cap] 26)).heap.size = w.heap.size + 3) := by show _ = _; simp
  have HN : Hid (Fp6 (((w.alloc (.cells #[.int .i64 id, .int .u64 lo, .int .u64 hi, .slice da ds.length dc, .int .i64 gen, .slice ao es.length cap] 26)).alloc (.cells #[.int .i64 0, .int .u64 0, .int .u64 0, .slice none 0 0, .int .i64 0, .slice none 0 0] 26)).alloc (.cells #[.int .i64 id, .int .u64 lo, .int .u64 hi, .slice da ds.length dc, .int .i64 gen, .slice ao es.length cap] 26)) (w.heap.size + 2) (.int .i64 id) (.int .u64 lo) (.int .u64 hi) (.slice da ds.length dc) (.int .i64 gen) (.slice ao es.length cap)) := by
    have := heap_alloc_new ((w.alloc (.cells #[.int .i64 id, .int .u64 lo, .int .u64 hi, .slice da ds.length dc, .int .i64 gen, .slice ao es.length cap] 26)).alloc (.cells #[.int .i64 0, .int .u64 0, .int .u64 0, .slice none 0 0, .int .i64 0, .slice none 0 0] 26)) (.cells #[.int .i64 id, .int .u64 lo, .int .u64 hi, .slice da ds.length dc, .int .i64 gen, .slice ao es.length cap] 26)
    rw [show ((w.alloc (.cells #[.int .i64 id, .int .u64 lo, .int .u64 hi, .slice da ds.length dc, .int .i64 gen, .slice ao es.length cap] 26)).alloc (.cells #[.int .i64 0, .int .u64 0, .int .u64 0, .slice none 0 0, .int .i64 0, .slice none 0 0] 26)).heap.size = w.heap.size + 2 from by simp] at this
    exact this
  have HZ : Hid (Fp6 (((w.alloc (.cells #[.int .i64 id, .int .u64 lo, .int .u64 hi, .slice da ds.length dc, .int .i64 gen, .slice ao es.length cap] 26)).alloc (.cells #[.int .i64 0, .int .u64 0, .int .u64 0, .slice none 0 0, .int .i64 0, .slice none 0 0] 26)).alloc (.cells #[.int .i64 id, .int .u64 lo, .int .u64 hi, .slice da ds.length dc, .int .i64 gen, .slice ao es.length cap] 26)) (w.heap.size + 1) (.int .i64 0) (.int .u64 0) (.int .u64 0) (.slice none 0 0) (.int .i64 0) (.slice none 0 0)) := by
    have := heap_alloc_new (w.alloc (.cells #[.int .i64 id, .int .u64 lo, .int .u64 hi, .slice da ds.length dc, .int .i64 gen, .slice ao es.length cap] 26)) (.cells #[.int .i64 0, .int .u64 0, .int .u64 0, .slice none 0 0, .int .i64 0, .slice none 0 0] 26)
    rw [show (w.alloc (.cells #[.int .i64 id, .int .u64 lo, .int .u64 hi, .slice da ds.length dc, .int .i64 gen, .slice ao es.length cap] 26)).heap.size = w.heap.size + 1 from by simp] at this
    exact (Below.heap_alloc _ _ _ (by simp)).trans this
  have HP : Hid (Fp6 (((w.alloc (.cells #[.int .i64 id, .int .u64 lo, .int .u64 hi, .slice da ds.length dc, .int .i64 gen, .slice ao es.length cap] 26)).alloc (.cells #[.int .i64 0, .int .u64 0, .int .u64 0, .slice none 0 0, .int .i64 0, .slice none 0 0] 26)).alloc (.cells #[.int .i64 id, .int .u64 lo, .int .u64 hi, .slice da ds.length dc, .int .i64 gen, .slice ao es.length cap] 26)) w.heap.size (.int .i64 id) (.int .u64 lo) (.int .u64 hi) (.slice da ds.length dc) (.int .i64 gen) (.slice ao es.length cap)) := by
    have := heap_alloc_new w (.cells #[.int .i64 id, .int .u64 lo, .int .u64 hi, .slice da ds.length dc, .int .i64 gen, .slice ao es.length cap] 26)
    exact (Below.heap_alloc _ _ _ (by simp; omega)).trans ((Below.heap_alloc _ _ _ (by simp)).trans this)
  go_enter Tryz.func6, Tryz.ntmps6
  go_wp2_with (at_builtin; refine hideG ?_)
  change wpList _ _ _ _ _ _
  generalize (((w.alloc (.cells #[.int .i64 id, .int .u64 lo, .int .u64 hi, .slice da ds.length dc, .int .i64 gen, .slice ao es.length cap] 26)).alloc (.cells #[.int .i64 0, .int .u64 0, .int .u64 0, .slice none 0 0, .int .i64 0, .slice none 0 0] 26)).alloc (.cells #[.int .i64 id, .int .u64 lo, .int .u64 hi, .slice da ds.length dc, .int .i64 gen, .slice ao es.length cap] 26)) = X3 at *
  have hal : Below X3.heap.size X3 (X3.alloc (.cells #[] 31)) := (Below.refl _ _).alloc (Nat.le_refl _) _
  refine app_dts (by rfl) _ _ (by rfl) X3.heap.size w.heap.size _ [] (own_litT0 X3) (by rw [HSz.out]; rfl) da dc ds (by rfl) (SeesT.later HD.out (HB3.out.trans (hal.mono HB3.out.size))) HDc.out HDa.out (by simpa using hdl) (by simp) ?_
  intro v' w' ho hgrow
  rw [List.nil_append] at ho
  obtain ⟨a', n', c', rfl⟩ := ho.isSlice
  have hkeep : ∀ k, k < X3.heap.size → w'.heap[k]? = X3.heap[k]? := fun k hk => (hgrow.block k (by simp; omega) (fun e => by injection e with e; have e' : k = X3.heap.size := e; omega)).trans (Below.heap_alloc _ _ k hk)
  have hsz' : w.heap.size + 3 < w'.heap.size := by
    have h1 := hgrow.size
    have h2 := HSz.out
    simp at h1
    omega
  have hN' : Fp6 w' (w.heap.size + 2) (.int .i64 id) (.int .u64 lo) (.int .u64 hi) (.slice da ds.length dc) (.int .i64 gen) (.slice ao es.length cap) := (hkeep _ HN.out.lt).trans HN.out
  have HZ' : Hid (Fp6 w' (w.heap.size + 1) (.int .i64 0) (.int .u64 0) (.int .u64 0) (.slice none 0 0) (.int .i64 0) (.slice none 0 0)) := (hkeep _ HZ.out.lt).trans HZ.out
  have HP' : Hid (Fp6 w' w.heap.size (.int .i64 id) (.int .u64 lo) (.int .u64 hi) (.slice da ds.length dc) (.int .i64 gen) (.slice ao es.length cap)) := (hkeep _ HP.out.lt).trans HP.out
  have HB' : Hid (Below w.heap.size w w') := HB3.out.trans ((hal.mono HB3.out.size).grown hgrow (by simp; have := HSz.out; omega) (fun k hk => by injection hk with hk; have e' : X3.heap.size = k := hk; have := HSz.out; omega))
  have HO' : Hid (ownT w' X3.heap.size (.slice a' n' c') ds) := ho
  have HN' : Hid (Fp6 w' (w.heap.size + 2) (.int .i64 id) (.int .u64 lo) (.int .u64 hi) (.slice da ds.length dc) (.int .i64 gen) (.slice ao es.length cap)) := hN'
  have u0 : w'.cell? ⟨w.heap.size + 2, 0, none⟩ = some (.int .i64 id) := hN'.cell 0
  have u1 : w'.cell? ⟨w.heap.size + 2, 1, none⟩ = some (.int .u64 lo) := hN'.cell 1
  have u2 : w'.cell? ⟨w.heap.size + 2, 2, none⟩ = some (.int .u64 hi) := hN'.cell 2
  have u3 : w'.cell? ⟨w.heap.size + 2, 3, none⟩ = some (.slice da ds.length dc) := hN'.cell 3
  have u4 : w'.cell? ⟨w.heap.size + 2, 4, none⟩ = some (.int .i64 gen) := hN'.cell 4
  have u5 : w'.cell? ⟨w.heap.size + 2, 5, none⟩ = some (.slice ao es.length cap) := hN'.cell 5
  have g3 := hN'.free 3
  clear ho hgrow hkeep hN' hal HN HZ HB3 HP HD HDc HDa
  have hS := HSz.out
  have HS1 : Hid (Fp6 (w'.setCell ⟨w.heap.size + 1 + 1, 3, none⟩ (.slice a' n' c')) (w.heap.size + 2) (.int .i64 id) (.int .u64 lo) (.int .u64 hi) (.slice a' n' c') (.int .i64 gen) (.slice ao es.length cap)) := HN'.out.set3 _
  have HZ1 : Hid (Fp6 (w'.setCell ⟨w.heap.size + 1 + 1, 3, none⟩ (.slice a' n' c')) (w.heap.size + 1) (.int .i64 0) (.int .u64 0) (.int .u64 0) (.slice none 0 0) (.int .i64 0) (.slice none 0 0)) := HZ'.out.other (p := ⟨w.heap.size + 2, 3, none⟩) _ (by simp only; omega)
  have HP1 : Hid (Fp6 (w'.setCell ⟨w.heap.size + 1 + 1, 3, none⟩ (.slice a' n' c')) w.heap.size (.int .i64 id) (.int .u64 lo) (.int .u64 hi) (.slice da ds.length dc) (.int .i64 gen) (.slice ao es.length cap)) := HP'.out.other (p := ⟨w.heap.size + 2, 3, none⟩) _ (by simp only; omega)
  have HB1 : Hid (Below w.heap.size w (w'.setCell ⟨w.heap.size + 1 + 1, 3, none⟩ (.slice a' n' c'))) := HB'.out.setCell (p := ⟨w.heap.size + 2, 3, none⟩) (by simp only; omega) _
  have HO1 : Hid (ownT (w'.setCell ⟨w.heap.size + 1 + 1, 3, none⟩ (.slice a' n' c')) X3.heap.size (.slice a' n' c') ds) := HO'.out.same fun k hk hB => Below.heap_setCell _ _ _ k (by simp only; omega)
  have hs1 : (w'.setCell ⟨w.heap.size + 1 + 1, 3, none⟩ (.slice a' n' c')).heap.size = w'.heap.size := by simp
  have p5 : ((w'.setCell ⟨w.heap.size + 1 + 1, 3, none⟩ (.slice a' n' c')).alloc (.cells #[] 33)).cell? ⟨w.heap.size, 5, none⟩ = some (.slice ao es.length cap) := by
    have h5 : Fp6 ((w'.setCell ⟨w.heap.size + 1 + 1, 3, none⟩ (.slice a' n' c')).alloc (.cells #[] 33)) w.heap.size (.int .i64 id) (.int .u64 lo) (.int .u64 hi) (.slice da ds.length dc) (.int .i64 gen) (.slice ao es.length cap) := (Below.heap_alloc _ _ _ HP1.out.lt).trans HP1.out
    exact h5.cell 5
  clear HN' HZ' HP' HB' HO'
  go_wp2_with (at_builtin; refine hideG ?_)
  change wpList _ _ _ _ _ _
  generalize hX : w'.setCell ⟨w.heap.size + 1 + 1, 3, none⟩ (.slice a' n' c') = X4 at *
  have hal : Below X4.heap.size X4 (X4.alloc (.cells #[] 33)) := (Below.refl _ _).alloc (Nat.le_refl _) _
  refine app_ers (by rfl) _ _ (by rfl) X4.heap.size w.heap.size _ [] (own_litE0 X4) (by rw [hs1]; rfl) ao cap es (by rfl) (SeesE.later HE.out (HB1.out.trans (hal.mono HB1.out.size))) HCp.out HAo.out (by simpa using hl) (by simp) ?_
  intro v2 w2 ho hgrow
  rw [List.nil_append] at ho
  obtain ⟨a2, n2, c2, rfl⟩ := ho.isSlice
  have hkeep : ∀ k, k < X4.heap.size → w2.heap[k]? = X4.heap[k]? := fun k hk => (hgrow.block k (by simp; omega) (fun e => by injection e with e; have e' : k = X4.heap.size := e; omega)).trans (Below.heap_alloc _ _ k hk)
  have hN' : Fp6 w2 (w.heap.size + 2) (.int .i64 id) (.int .u64 lo) (.int .u64 hi) (.slice a' n' c') (.int .i64 gen) (.slice ao es.length cap) := (hkeep _ HS1.out.lt).trans HS1.out
  have hZ' : Fp6 w2 (w.heap.size + 1) (.int .i64 0) (.int .u64 0) (.int .u64 0) (.slice none 0 0) (.int .i64 0) (.slice none 0 0) := (hkeep _ HZ1.out.lt).trans HZ1.out
  have HB2 : Hid (Below w.heap.size w w2) := HB1.out.trans ((hal.mono HB1.out.size).grown hgrow (by simp; have := HSz.out; omega) (fun k hk => by injection hk with hk; have e' : X4.heap.size = k := hk; have := HSz.out; omega))
  have HO2 : Hid (ownE w2 X4.heap.size (.slice a2 n2 c2) es) := ho
  have HO3 : Hid (ownT w2 X3.heap.size (.slice a' n' c') ds) := HO1.out.same fun k hk hB => hkeep k hk
  have HN2 : Hid (Fp6 w2 (w.heap.size + 2) (.int .i64 id) (.int .u64 lo) (.int .u64 hi) (.slice a' n' c') (.int .i64 gen) (.slice ao es.length cap)) := hN'
  have HZ2 : Hid (Fp6 w2 (w.heap.size + 1) (.int .i64 0) (.int .u64 0) (.int .u64 0) (.slice none 0 0) (.int .i64 0) (.slice none 0 0)) := hZ'
  have f5 := hN'.free 5
  have u0 : w2.cell? ⟨w.heap.size + 2, 0, none⟩ = some (.int .i64 id) := hN'.cell 0
  have u1 : w2.cell? ⟨w.heap.size + 2, 1, none⟩ = some (.int .u64 lo) := hN'.cell 1
  have u2 : w2.cell? ⟨w.heap.size + 2, 2, none⟩ = some (.int .u64 hi) := hN'.cell 2
  have u3 : w2.cell? ⟨w.heap.size + 2, 3, none⟩ = some (.slice a' n' c') := hN'.cell 3
  have u4 : w2.cell? ⟨w.heap.size + 2, 4, none⟩ = some (.int .i64 gen) := hN'.cell 4
  have u5 : w2.cell? ⟨w.heap.size + 2, 5, none⟩ = some (.slice ao es.length cap) := hN'.cell 5
  have z0 : w2.cell? ⟨w.heap.size + 1, 0, none⟩ = some (.int .i64 0) := hZ'.cell 0
  have z1 : w2.cell? ⟨w.heap.size + 1, 1, none⟩ = some (.int .u64 0) := hZ'.cell 1
  have z2 : w2.cell? ⟨w.heap.size + 1, 2, none⟩ = some (.int .u64 0) := hZ'.cell 2
  have z3 : w2.cell? ⟨w.heap.size + 1, 3, none⟩ = some (.slice none 0 0) := hZ'.cell 3
  have z4 : w2.cell? ⟨w.heap.size + 1, 4, none⟩ = some (.int .i64 0) := hZ'.cell 4
  have z5 : w2.cell? ⟨w.heap.size + 1, 5, none⟩ = some (.slice none 0 0) := hZ'.cell 5
  have o0 := hZ'.free 0
  have o1 := hZ'.free 1
  have o2 := hZ'.free 2
  have o3 := hZ'.free 3
  have o4 := hZ'.free 4
  have o5 := hZ'.free 5
  clear ho hgrow hkeep hN' hZ' hal HS1 HZ1 HP1 HB1 HO1 HE HCp HAo hX p5 g3
  go_wp2
  have hz1 := (HZ2.out.other (p := ⟨w.heap.size + 2, 5, none⟩) (.slice a2 n2 c2) (by simp only; omega)).setAll (.int .i64 id) (.int .u64 lo) (.int .u64 hi) (.slice a' n' c') (.int .i64 gen) (.slice a2 n2 c2)
  refine bodyPost_ret (ret_fp rfl _ _ _ _ _ _ _ _ (w.heap.size + 1) (by rfl) hz1) rfl ⟨?_, _, _, rfl, ?_, ?_⟩
  · exact ((((((HB2.out.setCell (p := ⟨w.heap.size + 2, 5, none⟩) (by simp only; omega) _).setCell (p := ⟨w.heap.size + 1, 0, none⟩) (by simp only; omega) _).setCell (p := ⟨w.heap.size + 1, 1, none⟩) (by simp only; omega) _).setCell (p := ⟨w.heap.size + 1, 2, none⟩) (by simp only; omega) _).setCell (p := ⟨w.heap.size + 1, 3, none⟩) (by simp only; omega) _).setCell (p := ⟨w.heap.size + 1, 4, none⟩) (by simp only; omega) _).setCell (p := ⟨w.heap.size + 1, 5, none⟩) (by simp only; omega) _
  · refine (HO3.out.same fun k hk hB => ?_).mono (by omega)
    have hne : k ≠ w.heap.size + 1 := by omega
    have hne2 : k ≠ w.heap.size + 2 := by omega
    exact ((Below.heap_setCell _ _ _ k hne).trans ((Below.heap_setCell _ _ _ k hne).trans ((Below.heap_setCell _ _ _ k hne).trans ((Below.heap_setCell _ _ _ k hne).trans ((Below.heap_setCell _ _ _ k hne).trans ((Below.heap_setCell _ _ _ k hne).trans (Below.heap_setCell _ _ _ k hne2)))))))
  · refine (HO2.out.same fun k hk hB => ?_).mono (by omega)
    have hne : k ≠ w.heap.size + 1 := by omega
    have hne2 : k ≠ w.heap.size + 2 := by omega
    exact ((Below.heap_setCell _ _ _ k hne).trans ((Below.heap_setCell _ _ _ k hne).trans ((Below.heap_setCell _ _ _ k hne).trans ((Below.heap_setCell _ _ _ k hne).trans ((Below.heap_setCell _ _ _ k hne).trans ((Below.heap_setCell _ _ _ k hne).trans (Below.heap_setCell _ _ _ k hne2)))))))
end Go.Proofs.YtbfjnidpjmhfiaaGreatDoor

namespace Go.Proofs.YtbfjnidpjmhfiaaGreatDoor
open Go.ChangeShapes Go.WideShapes Go.ChangeAt Go.RowKit Go.Maps
set_option linter.unusedVariables false
set_option maxRecDepth 100000
theorem setCellP {w : World} {b j : Nat} {c : Array Value} {t : TypeId} {fz : Nat × Nat} (v : Value) (h : w.heap[b]? = some (.cells c t fz)) : (w.setCell ⟨b, j, none⟩ v).heap[b]? = some (.cells (c.setIfInBounds j v) t fz) := by
  have hb : b < w.heap.size := (Array.getElem?_eq_some_iff.1 h).1
  have he := (Array.getElem?_eq_some_iff.1 h).2
  show (w.heap.modify b _)[b]? = _
  rw [Array.getElem?_modify]
  simp [he, hb]
theorem ownsRow_setP {w : World} {B : Nat} {e : TypeId} {size g n cap : Nat} {xs : List Value} (h : w.ownsRow B e size (.slice (some ⟨g, 0, none⟩) n cap) n xs) (j : Nat) (x : Value) : (w.setCell ⟨g, j, none⟩ x).ownsRow B e size (.slice (some ⟨g, 0, none⟩) n cap) n (xs.set j x) := by
  obtain ⟨hl, h2⟩ := h
  rcases h2 with ⟨h', _⟩ | ⟨g', cap', cur, h', hb, hg, hnc, hm, hs, ht⟩
  · simp at h'
  · simp only [Value.slice.injEq, Option.some.injEq, Addr.mk.injEq, and_true] at h'
    obtain ⟨rfl, _, rfl⟩ := h'
    refine ⟨by rw [List.length_set]; exact hl, .inr ⟨g, cap, _, rfl, hb, setCellP x hg, hnc, hm, by simpa using hs, ?_⟩⟩
    rw [Array.toList_setIfInBounds, List.take_set, ht]
theorem cellsE_set : ∀ (ms : List ER) (k : Nat) (x : ER) (hk : k < ms.length), (((cellsE ms).set (k * 3) (.int .u64 x.beg)).set (k * 3 + 1) (.int .u64 x.fin)).set (k * 3 + 2) (.string x.key) = cellsE (ms.set k x)
  | m :: ms, 0, x, _ => by simp [cellsE_cons]
  | m :: ms, k + 1, x, hk => by
    have ih := cellsE_set ms k x (by simpa using hk)
    rw [cellsE_cons, List.set_cons_succ, cellsE_cons, ← ih, show (k + 1) * 3 = k * 3 + 1 + 1 + 1 from by omega]
    simp
/-- The world behind the storing of one entry. -/
abbrev putE (W : World) (gr k : Nat) (x : ER) : World := ((W.setCell ⟨gr, k * 3, none⟩ (.int .u64 x.beg)).setCell ⟨gr, k * 3 + 1, none⟩ (.int .u64 x.fin)).setCell ⟨gr, k * 3 + 2, none⟩ (.string x.key)
theorem ownE.put {W : World} {B gr cap : Nat} {ms : List ER} {n : Nat} (h : ownE W B (.slice (some ⟨gr, 0, none⟩) n cap) ms) (hn : ms.length = n) (k : Nat) (hk : k < n) (x : ER) : ownE (putE W gr k x) B (.slice (some ⟨gr, 0, none⟩) n cap) (ms.set k x) := by
  unfold ownE at h ⊢
  subst hn
  rw [List.length_set, ← cellsE_set ms k x hk]
  exact ownsRow_setP (ownsRow_setP (ownsRow_setP h _ _) _ _) _ _
theorem putE_heap (W : World) (gr k : Nat) (x : ER) (b : Nat) (hb : b ≠ gr) : (putE W gr k x).heap[b]? = W.heap[b]? := by
  unfold putE
  rw [Below.heap_setCell _ _ _ b hb, Below.heap_setCell _ _ _ b hb, Below.heap_setCell _ _ _ b hb]
theorem putE_size (W : World) (gr k : Nat) (x : ER) : (putE W gr k x).heap.size = W.heap.size := by simp
theorem putE_below {B : Nat} {w W : World} {gr : Nat} (h : Below B w W) (hg : B ≤ gr) (k : Nat) (x : ER) : Below B w (putE W gr k x) := by
  unfold putE
  exact ((h.setCell (p := ⟨gr, k * 3, none⟩) hg _).setCell (p := ⟨gr, k * 3 + 1, none⟩) hg _).setCell (p := ⟨gr, k * 3 + 2, none⟩) hg _
theorem ownE.at {W : World} {B : Nat} {ao : Option Addr} {n cap : Nat} {ms : List ER} (h : ownE W B (.slice ao n cap) ms) (k : Nat) (hk : k < ms.length) : ∃ gr, ao = some ⟨gr, 0, none⟩ ∧ B ≤ gr ∧ gr < W.heap.size ∧ ErAt W gr (k * 3) ms[k] ∧ ∀ j, W.frozen? ⟨gr, j, none⟩ = false := by
  have hh := h.sees k hk
  rcases h.2 with ⟨h', hn⟩ | ⟨g', cap', cur, h', hb, hg, hnc, hm, hs, ht⟩
  · omega
  · simp only [Value.slice.injEq] at h'
    obtain ⟨rfl, rfl, rfl⟩ := h'
    obtain ⟨b, off, e, hlt, hp⟩ := hh
    simp only [Option.some.injEq, Addr.mk.injEq, and_true] at e
    obtain ⟨rfl, rfl⟩ := e
    rw [Nat.zero_add] at hp
    exact ⟨g', rfl, hb, hlt, hp, fun j => by simp [World.frozen?, hg]⟩
theorem ownE.kind {W : World} {B : Nat} {v : Value} {ms : List ER} (h : ownE W B v ms) {k : Nat} (hk : v.ownBlock = some k) : ∃ c fz, W.heap[k]? = some (.cells c 33 fz) := by
  rcases h.2 with ⟨h', hn⟩ | ⟨g', cap', cur, h', hb, hg, hnc, hm, hs, ht⟩
  · rw [h'] at hk; cases hk
  · rw [h'] at hk
    injection hk with hk
    subst hk
    exact ⟨_, _, hg⟩
theorem cellsT_set : ∀ (ms : List DT) (k : Nat) (x : DT) (hk : k < ms.length), (((cellsT ms).set (k * 3) (.int .u64 x.beg)).set (k * 3 + 1) (.string x.key)).set (k * 3 + 2) (.string x.data) = cellsT (ms.set k x)
  | m :: ms, 0, x, _ => by simp [cellsT_cons]
  | m :: ms, k + 1, x, hk => by
    have ih := cellsT_set ms k x (by simpa using hk)
    rw [cellsT_cons, List.set_cons_succ, cellsT_cons, ← ih, show (k + 1) * 3 = k * 3 + 1 + 1 + 1 from by omega]
    simp
/-- The world behind the storing of one entry. -/
abbrev putT (W : World) (gr k : Nat) (x : DT) : World := ((W.setCell ⟨gr, k * 3, none⟩ (.int .u64 x.beg)).setCell ⟨gr, k * 3 + 1, none⟩ (.string x.key)).setCell ⟨gr, k * 3 + 2, none⟩ (.string x.data)
theorem ownT.put {W : World} {B gr cap : Nat} {ms : List DT} {n : Nat} (h : ownT W B (.slice (some ⟨gr, 0, none⟩) n cap) ms) (hn : ms.length = n) (k : Nat) (hk : k < n) (x : DT) : ownT (putT W gr k x) B (.slice (some ⟨gr, 0, none⟩) n cap) (ms.set k x) := by
  unfold ownT at h ⊢
  subst hn
  rw [List.length_set, ← cellsT_set ms k x hk]
  exact ownsRow_setP (ownsRow_setP (ownsRow_setP h _ _) _ _) _ _
theorem putT_heap (W : World) (gr k : Nat) (x : DT) (b : Nat) (hb : b ≠ gr) : (putT W gr k x).heap[b]? = W.heap[b]? := by
  unfold putT
  rw [Below.heap_setCell _ _ _ b hb, Below.heap_setCell _ _ _ b hb, Below.heap_setCell _ _ _ b hb]
theorem putT_size (W : World) (gr k : Nat) (x : DT) : (putT W gr k x).heap.size = W.heap.size := by simp
theorem putT_below {B : Nat} {w W : World} {gr : Nat} (h : Below B w W) (hg : B ≤ gr) (k : Nat) (x : DT) : Below B w (putT W gr k x) := by
  unfold putT
  exact ((h.setCell (p := ⟨gr, k * 3, none⟩) hg _).setCell (p := ⟨gr, k * 3 + 1, none⟩) hg _).setCell (p := ⟨gr, k * 3 + 2, none⟩) hg _
theorem ownT.at {W : World} {B : Nat} {ao : Option Addr} {n cap : Nat} {ms : List DT} (h : ownT W B (.slice ao n cap) ms) (k : Nat) (hk : k < ms.length) : ∃ gr, ao = some ⟨gr, 0, none⟩ ∧ B ≤ gr ∧ gr < W.heap.size ∧ DtAt W gr (k * 3) ms[k] ∧ ∀ j, W.frozen? ⟨gr, j, none⟩ = false := by
  have hh := h.sees k hk
  rcases h.2 with ⟨h', hn⟩ | ⟨g', cap', cur, h', hb, hg, hnc, hm, hs, ht⟩
  · omega
  · simp only [Value.slice.injEq] at h'
    obtain ⟨rfl, rfl, rfl⟩ := h'
    obtain ⟨b, off, e, hlt, hp⟩ := hh
    simp only [Option.some.injEq, Addr.mk.injEq, and_true] at e
    obtain ⟨rfl, rfl⟩ := e
    rw [Nat.zero_add] at hp
    exact ⟨g', rfl, hb, hlt, hp, fun j => by simp [World.frozen?, hg]⟩
theorem ownT.kind {W : World} {B : Nat} {v : Value} {ms : List DT} (h : ownT W B v ms) {k : Nat} (hk : v.ownBlock = some k) : ∃ c fz, W.heap[k]? = some (.cells c 31 fz) := by
  rcases h.2 with ⟨h', hn⟩ | ⟨g', cap', cur, h', hb, hg, hnc, hm, hs, ht⟩
  · rw [h'] at hk; cases hk
  · rw [h'] at hk
    injection hk with hk
    subst hk
    exact ⟨_, _, hg⟩
/-- A row of erasures and one of data lie in unlike blocks. -/
theorem ownT.ne {W : World} {B C : Nat} {v u : Value} {ds : List DT} {es : List ER} (h : ownT W B v ds) (k : ownE W C u es) {g : Nat} (hv : v.ownBlock = some g) (hu : u.ownBlock = some g) : False := by
  obtain ⟨c, fz, e⟩ := h.kind hv
  obtain ⟨c', fz', e'⟩ := k.kind hu
  rw [e] at e'
  injection e' with e'
  injection e' with _ e' _
  exact absurd e' (by decide)
theorem ownT.ext {W : World} {B : Nat} {ao : Option Addr} {n cap : Nat} {ms : List DT} (h : ownT W B (.slice ao n cap) ms) : n = ms.length := by
  obtain ⟨a, c, e, _⟩ := h.slice
  injection e
/-- The data of the one entry is another. -/
theorem ownT.turn {W : World} {B gr cap : Nat} {m : DT} (h : ownT W B (.slice (some ⟨gr, 0, none⟩) 1 cap) [m]) (d : ByteArray) : ownT (W.setCell ⟨gr, 2, none⟩ (.string d)) B (.slice (some ⟨gr, 0, none⟩) 1 cap) [{ m with data := d }] := by
  unfold ownT at h ⊢
  exact ownsRow_setP h 2 (.string d)
end Go.Proofs.YtbfjnidpjmhfiaaGreatDoor

namespace Go.Proofs.YtbfjnidpjmhfiaaGreatDoor
open Go.ChangeShapes Go.WideShapes Go.ChangeAt Go.RowKit Go.Maps
set_option linter.unusedVariables false
set_option maxRecDepth 100000
theorem SeesE.more {w w' : World} {ao : Option Addr} {ps : List ER} (h : SeesE w w.heap.size ao ps) (hb : Below w.heap.size w w') : SeesE w' w'.heap.size ao ps := fun i hi => by
  obtain ⟨b', o', e, hlt, hp⟩ := (h.later hb) i hi
  exact ⟨b', o', e, Nat.lt_of_lt_of_le hlt hb.size, hp⟩
theorem SeesT.more {w w' : World} {ao : Option Addr} {ps : List DT} (h : SeesT w w.heap.size ao ps) (hb : Below w.heap.size w w') : SeesT w' w'.heap.size ao ps := fun i hi => by
  obtain ⟨b', o', e, hlt, hp⟩ := (h.later hb) i hi
  exact ⟨b', o', e, Nat.lt_of_lt_of_le hlt hb.size, hp⟩
set_option maxHeartbeats 6400000 in
theorem samePair_eq (w : World) (id lo hi gen : Int) (da db ao bo : Option Addr) (dc dc2 cap cap2 : Nat) (ds : List DT) (es : List ER) (hd : SeesT w w.heap.size da ds) (hd2 : SeesT w w.heap.size db ds) (ha : SeesE w w.heap.size ao es) (hb : SeesE w w.heap.size bo es) (hdl : ds.length ≤ 9000000000000) (hl : es.length ≤ 9000000000000) :
    Calls Tryz.prog 10 #[.agg #[.int .i64 id, .int .u64 lo, .int .u64 hi, .slice da ds.length dc, .int .i64 gen, .slice ao es.length cap], .agg #[.int .i64 id, .int .u64 lo, .int .u64 hi, .slice db ds.length dc2, .int .i64 gen, .slice bo es.length cap2]] w fun e w' => e = .returned (.bool true) ∧ Below w.heap.size w w' := by
  have HB0 : Hid (Below w.heap.size w ((w.alloc (.cells #[.int .i64 id, .int .u64 lo, .int .u64 hi, .slice da ds.length dc, .int .i64 gen, .slice ao es.length cap] 26)).alloc (.cells #[.int .i64 id, .int .u64 lo, .int .u64 hi, .slice db ds.length dc2, .int .i64 gen, .slice bo es.length cap2] 26))) := ((Below.refl _ _).alloc (Nat.le_refl _) _).alloc (by simp) _
  have HSz : Hid (((w.alloc (.cells #[.int .i64 id, .int .u64 lo, .int .u64 hi, .slice da ds.length dc, .int .i64 gen, .slice ao es.length cap] 26)).alloc (.cells #[.int .i64 id, .int .u64 lo, .int .u64 hi, .slice db ds.length dc2, .int .i64 gen, .slice bo es.length cap2] 26)).heap.size = w.heap.size + 2) := by show _ = _; simp
  have HA0 : Hid (Fp6 ((w.alloc (.cells #[.int .i64 id, .int .u64 lo, .int .u64 hi, .slice da ds.length dc, .int .i64 gen, .slice ao es.length cap] 26)).alloc (.cells #[.int .i64 id, .int .u64 lo, .int .u64 hi, .slice db ds.length dc2, .int .i64 gen, .slice bo es.length cap2] 26)) w.heap.size (.int .i64 id) (.int .u64 lo) (.int .u64 hi) (.slice da ds.length dc) (.int .i64 gen) (.slice ao es.length cap)) := (Below.heap_alloc _ _ _ (by simp)).trans (heap_alloc_new w _)
  have HA1 : Hid (Fp6 ((w.alloc (.cells #[.int .i64 id, .int .u64 lo, .int .u64 hi, .slice da ds.length dc, .int .i64 gen, .slice ao es.length cap] 26)).alloc (.cells #[.int .i64 id, .int .u64 lo, .int .u64 hi, .slice db ds.length dc2, .int .i64 gen, .slice bo es.length cap2] 26)) (w.heap.size + 1) (.int .i64 id) (.int .u64 lo) (.int .u64 hi) (.slice db ds.length dc2) (.int .i64 gen) (.slice bo es.length cap2)) := by
    have := heap_alloc_new (w.alloc (.cells #[.int .i64 id, .int .u64 lo, .int .u64 hi, .slice da ds.length dc, .int .i64 gen, .slice ao es.length cap] 26)) (.cells #[.int .i64 id, .int .u64 lo, .int .u64 hi, .slice db ds.length dc2, .int .i64 gen, .slice bo es.length cap2] 26)
    rw [show (w.alloc (.cells #[.int .i64 id, .int .u64 lo, .int .u64 hi, .slice da ds.length dc, .int .i64 gen, .slice ao es.length cap] 26)).heap.size = w.heap.size + 1 from by simp] at this
    exact this
  have HD : Hid (∀ W, Below w.heap.size w W → Calls Tryz.prog 15 #[.slice da ds.length dc, .slice db ds.length dc2] W fun e w' => e = .returned (.bool true) ∧ Below W.heap.size W w') := fun W h => sameData_eq W da db dc dc2 ds (hd.more h) (hd2.more h) hdl
  have HE : Hid (∀ W, Below w.heap.size w W → Calls Tryz.prog 19 #[.slice ao es.length cap, .slice bo es.length cap2] W fun e w' => e = .returned (.bool true) ∧ Below W.heap.size W w') := fun W h => sameGone_eq W ao bo cap cap2 es (ha.more h) (hb.more h) hl
  clear hd hd2 ha hb
  go_enter Tryz.func10, Tryz.ntmps10
  go_wp2_with fail
  generalize ((w.alloc (.cells #[.int .i64 id, .int .u64 lo, .int .u64 hi, .slice da ds.length dc, .int .i64 gen, .slice ao es.length cap] 26)).alloc (.cells #[.int .i64 id, .int .u64 lo, .int .u64 hi, .slice db ds.length dc2, .int .i64 gen, .slice bo es.length cap2] 26)) = wb at *
  refine (HD.out _ HB0.out).mono ?_
  rintro _ w2 ⟨rfl, hb2⟩
  have HB2 : Hid (Below w.heap.size w w2) := HB0.out.trans (hb2.mono HB0.out.size)
  have x5 : w2.cell? ⟨w.heap.size, 5, none⟩ = some (.slice ao es.length cap) := (HA0.out.later hb2 HA0.out.lt).cell 5
  have y5 : w2.cell? ⟨w.heap.size + 1, 5, none⟩ = some (.slice bo es.length cap2) := (HA1.out.later hb2 HA1.out.lt).cell 5
  clear hb2
  go_wp2_with fail
  refine (HE.out _ HB2.out).mono ?_
  rintro _ w3 ⟨rfl, hb3⟩
  have HB3 : Hid (Below w.heap.size w w3) := HB2.out.trans (hb3.mono HB2.out.size)
  clear hb3 x5 y5
  go_wp2
  go_ret
  exact ⟨rfl, HB3.out⟩
end Go.Proofs.YtbfjnidpjmhfiaaGreatDoor
