import Derived.Test.YtdpebhdjcgiboaaGreatSg7
import Derived.Test.YtdpebhdjcgiboaaGreatSnB
import Derived.Test.YtdpebhdjcgiboaaGreatSrK
import Derived.Test.YtdpebhdjcgiboaaGreatSl6
import Derived.Test.YtdpebhdjcgiboaaGreatSh3
namespace Go.Proofs.YtdpebhdjcgiboaaGreat
open Go.ChangeShapes Go.WideShapes Go.ChangeAt Go.RowKit Go.MuLone Go.RwLone
set_option linter.unusedVariables false
set_option maxRecDepth 100000
set_option maxHeartbeats 6400000
/-- One instruction stored into a row of one's own. -/
theorem owI_set {w : World} {B g n c : Nat} {xs : List I8} (h : OwG iC 106 8 w B (.slice (some ⟨g, 0, none⟩) n c) xs) (j : Nat) (hj : j < xs.length) (x : I8) :
    OwG iC 106 8 ((((((((w.setCell ⟨g, j * 8, none⟩ (.int .i64 x.op)).setCell ⟨g, j * 8 + 1, none⟩ (.int .i64 x.c)).setCell ⟨g, j * 8 + 2, none⟩ (.int .i64 x.r)).setCell ⟨g, j * 8 + 3, none⟩ (.int .i64 x.nr)).setCell ⟨g, j * 8 + 4, none⟩ (.int .u64 x.ni)).setCell ⟨g, j * 8 + 5, none⟩ (.int .i64 x.orr)).setCell ⟨g, j * 8 + 6, none⟩ (.int .u64 x.oi)).setCell ⟨g, j * 8 + 7, none⟩ (.int .i64 x.n)) B (.slice (some ⟨g, 0, none⟩) n c) (xs.set j x) := by
  have hnx := (owG_cap h).1
  subst hnx
  have h1 := (World.ownsRow.stored h (j * 8) (.int .i64 x.op)).1
  have h2 := (World.ownsRow.stored h1 (j * 8 + 1) (.int .i64 x.c)).1
  have h3 := (World.ownsRow.stored h2 (j * 8 + 2) (.int .i64 x.r)).1
  have h4 := (World.ownsRow.stored h3 (j * 8 + 3) (.int .i64 x.nr)).1
  have h5 := (World.ownsRow.stored h4 (j * 8 + 4) (.int .u64 x.ni)).1
  have h6 := (World.ownsRow.stored h5 (j * 8 + 5) (.int .i64 x.orr)).1
  have h7 := (World.ownsRow.stored h6 (j * 8 + 6) (.int .u64 x.oi)).1
  have h8 := (World.ownsRow.stored h7 (j * 8 + 7) (.int .i64 x.n)).1
  have e : (xs.set j x).flatMap iC = ((((((((xs.flatMap iC).set (j * 8) (.int .i64 x.op)).set (j * 8 + 1) (.int .i64 x.c)).set (j * 8 + 2) (.int .i64 x.r)).set (j * 8 + 3) (.int .i64 x.nr)).set (j * 8 + 4) (.int .u64 x.ni)).set (j * 8 + 5) (.int .i64 x.orr)).set (j * 8 + 6) (.int .u64 x.oi)).set (j * 8 + 7) (.int .i64 x.n) := by
    apply List.ext_getElem?
    intro k
    have hl : (xs.flatMap iC).length = xs.length * 8 := flat_len iC 8 (fun _ => rfl) xs
    have hl2 : ((xs.set j x).flatMap iC).length = xs.length * 8 := by rw [flat_len iC 8 (fun _ => rfl), List.length_set]
    rcases Nat.lt_or_ge k (xs.length * 8) with hk | hk
    · have hi : k / 8 < xs.length := by omega
      have hr : k % 8 < 8 := Nat.mod_lt _ (by decide)
      have ek : k = k / 8 * 8 + k % 8 := by omega
      have l1 : ((xs.set j x).flatMap iC)[k]? = (iC ((xs.set j x)[k / 8]'(by simpa using hi)))[k % 8]? := by
        conv => lhs; rw [ek]
        exact flat_get iC 8 (fun _ => rfl) (xs.set j x) (k / 8) (by simpa using hi) (k % 8) hr
      have l2 : (xs.flatMap iC)[k]? = (iC xs[k / 8])[k % 8]? := by
        conv => lhs; rw [ek]
        exact flat_get iC 8 (fun _ => rfl) xs (k / 8) hi (k % 8) hr
      rw [l1]
      simp only [List.getElem?_set, List.length_set, hl]
      by_cases ej : k / 8 = j
      · have hx : (xs.set j x)[k / 8]'(by simpa using hi) = x := by simp [ej]
        rw [hx]
        have : k % 8 = 0 ∨ k % 8 = 1 ∨ k % 8 = 2 ∨ k % 8 = 3 ∨ k % 8 = 4 ∨ k % 8 = 5 ∨ k % 8 = 6 ∨ k % 8 = 7 := by omega
        rcases this with r | r | r | r | r | r | r | r
        all_goals
          have hkk : k = j * 8 + k % 8 := by omega
          rw [r] at hkk ⊢
          subst hkk
          repeat' split
          all_goals first | rfl | omega
      · have hx : (xs.set j x)[k / 8]'(by simpa using hi) = xs[k / 8] := by simp [Ne.symm ej]
        rw [hx]
        repeat' split
        all_goals first | omega | exact l2.symm
    · rw [List.getElem?_eq_none (by omega), List.getElem?_eq_none (by simp only [List.length_set]; omega)]
  unfold OwG
  rw [e, List.length_set]
  exact h8
end Go.Proofs.YtdpebhdjcgiboaaGreat

namespace Go.Proofs.YtdpebhdjcgiboaaGreat
open Go.ChangeShapes Go.WideShapes Go.ChangeAt Go.RowKit Go.MuLone Go.RwLone
set_option linter.unusedVariables false
set_option maxRecDepth 100000
set_option maxHeartbeats 6400000
def adI : I8 := ⟨4, 0, 0, -1, 1, 0, 0, 0⟩
def zeI : I8 := ⟨0, 0, 0, 0, 0, 0, 0, 0⟩
theorem adI_sound : ∀ n, n < 11 → soundP [0] [List.replicate n adI] = true := by decide
theorem adI_imm (n : Nat) : ∀ l ∈ [List.replicate n adI], ∀ x ∈ l, immOk x := by
  intro l hl x hx
  rw [List.mem_singleton.1 hl] at hx
  rw [List.eq_of_mem_replicate hx]
  unfold immOk adI
  decide
theorem cs0 : csOk [0] := by
  unfold csOk
  intro x hx
  rw [List.mem_singleton.1 hx]
  decide
abbrev zaI : Array Value := #[.int .i64 0, .int .i64 0, .int .i64 0, .int .i64 0, .int .u64 0, .int .i64 0, .int .u64 0, .int .i64 0]
theorem made_zeI : ∀ n, n < 11 → (madeCells zaI (n * 8)).toList = (List.replicate n zeI).flatMap iC
  | 0, _ => by kernel_rfl
  | 1, _ => by kernel_rfl
  | 2, _ => by kernel_rfl
  | 3, _ => by kernel_rfl
  | 4, _ => by kernel_rfl
  | 5, _ => by kernel_rfl
  | 6, _ => by kernel_rfl
  | 7, _ => by kernel_rfl
  | 8, _ => by kernel_rfl
  | 9, _ => by kernel_rfl
  | 10, _ => by kernel_rfl
  | n + 11, h => by omega
theorem made_row (w : World) (n : Nat) (h : n < 11) : OwG iC 106 8 (w.alloc (.cells (madeCells zaI (n * 8)) 106)) w.heap.size (.slice (some ⟨w.heap.size, 0, none⟩) n n) (List.replicate n zeI) := by
  have e := made_zeI n h
  have hs : (madeCells zaI (n * 8)).size = n * 8 := by simp [madeCells]
  refine ⟨?_, .inr ⟨w.heap.size, n, madeCells zaI (n * 8), by rw [List.length_replicate], Nat.le_refl _, heap_alloc_last _ _ _ rfl, by rw [List.length_replicate]; exact Nat.le_refl _, by unfold maxLen; omega, hs, ?_⟩⟩
  · rw [flat_len iC 8 (fun _ => rfl)]
  · rw [List.length_replicate, ← e, List.take_of_length_le (by rw [Array.length_toList, hs]; exact Nat.le_refl _)]
theorem hm_fresh {w w' : World} (pt : Nat → Nat) (n : Nat) (h2 : n ≤ 16) (k : Keeps (fun _ => False) ((w.alloc (.cells (madeCells #[.slice none 0 0] n) 120)).alloc (.cells #[.slice (some ⟨w.heap.size, 0, none⟩) n n, .int .i64 0, .slice none 0 0, .slice none 0 0] 118)) w') :
    Hm w' (fun y => y = w.heap.size ∨ y = w.heap.size + 1) pt (w.heap.size + 1) w.heap.size (fun _ => .slice none 0 0) (.slice none 0 0) (.slice none 0 0) (hpT n 0) := by
  have s1 : ((w.alloc (.cells (madeCells #[.slice none 0 0] n) 120)).alloc (.cells #[.slice (some ⟨w.heap.size, 0, none⟩) n n, .int .i64 0, .slice none 0 0, .slice none 0 0] 118)).heap.size = w.heap.size + 2 := by rw [szAl, szAl]
  have eq : w'.heap[w.heap.size]? = some (.cells (madeCells #[.slice none 0 0] n) 120) := (k.block _ (by omega) (fun e => e)).trans ((Below.heap_alloc _ _ _ (by rw [szAl]; omega)).trans (heap_alloc_last _ _ _ rfl))
  have eh : w'.heap[w.heap.size + 1]? = some (.cells #[.slice (some ⟨w.heap.size, 0, none⟩) n n, .int .i64 0, .slice none 0 0, .slice none 0 0] 118) := (k.block _ (by omega) (fun e => e)).trans (heap_alloc_last _ _ _ (szAl _ _).symm)
  have hl := hpT_len n 0
  refine ⟨by rw [hl]; exact eh, ⟨_, eq⟩, fun i hi => ?_, fun i hi => ?_, (fun i j g _ _ _ e => by cases e), OwG.nil _ _ _ _ _, OwG.nil _ _ _ _ _, .inr rfl, .inl rfl, (fun i g _ e => by cases e), (fun g e => by cases e), (fun g e => by cases e), fun x hx => ?_, by rw [hl]; exact h2⟩
  · rw [hl] at hi
    rw [cell?_heap eq i, ← Array.getElem?_toList, toList_madeCells_one]
    simp [hi]
  · have : (hpT n 0).q[i] = [] := by simp [hpT]
    rw [this]
    exact OwG.nil _ _ _ _ _
  · have := k.size
    rw [s1] at this
    rcases hx with rfl | rfl <;> omega
theorem inW1 {w : World} {g C : Nat} {x : Int} (h : w.heap[g]? = some (.cells #[.int .u64 x] 55)) (hC : g < C) : InG wdC w C (.slice (some ⟨g, 0, none⟩) 1 1) [x] := by
  refine ⟨some ⟨g, 0, none⟩, 1, rfl, Nat.le_refl _, (fun e => by cases e), fun j u hj => ⟨g, 0, rfl, hC, ?_⟩⟩
  match j, hj with
  | 0, hj => rw [cell?_heap h 0]; exact hj
  | j + 1, hj => simp [wdC] at hj
theorem inP1 {w : World} {g C : Nat} {p : Value × List I8} (h : w.heap[g]? = some (.cells #[p.1] 102)) (hC : g < C) : InG slP w C (.slice (some ⟨g, 0, none⟩) 1 1) [p] := by
  refine ⟨some ⟨g, 0, none⟩, 1, rfl, Nat.le_refl _, (fun e => by cases e), fun j u hj => ⟨g, 0, rfl, hC, ?_⟩⟩
  match j, hj with
  | 0, hj => rw [cell?_heap h 0]; exact hj
  | j + 1, hj => simp [slP] at hj
/-- The state of a job's thread at its begin. -/
def sJ : Ls := ⟨wds [0], fun _ _ => 0, fun _ => 0⟩
def bJ : Bd := ⟨⟨0, 0, 0, 0⟩, 0, 0, fun _ => 0, fun _ => none, fun _ => 0, fun _ => []⟩
/-- In the midst of handing jobs in. -/
structure Lj (w w' : World) (W : Nat) (js : List (Int × Int × Int)) (i hb qb : Nat) (J : Nat → Bd) : Prop where
  m : ∃ P qv ev en, Hm w' P (fun k => (J k).T 0) hb qb qv ev en (hJ (whoJ js W) (tagJ js) W i) ∧ (∀ y, P y → w.heap.size ≤ y) ∧ (∀ k, k < i → ∀ y, fB (J k) y → ¬ P y)
  j : Js J i
  l : ∀ k, k < i → lnJ J k = lenJ js k
  z : ∀ k, i ≤ k → lnJ J k = 0
  o : ∀ k, k < i → Bo (J k) w' sJ
  f : ∀ k, k < i → ∀ y, fB (J k) y → w.heap.size ≤ y
  k : Keeps (fun _ => False) w w'
theorem Lj.later {w w' w'' : World} {W : Nat} {js : List (Int × Int × Int)} {i hb qb : Nat} {J : Nat → Bd} (h : Lj w w' W js i hb qb J) (k : Keeps (fun _ => False) w' w'') : Lj w w'' W js i hb qb J := by
  obtain ⟨P, qv, ev, en, m, hP, hd⟩ := h.m
  exact ⟨⟨P, qv, ev, en, m.still k, hP, hd⟩, h.j, h.l, h.z, fun q hq => (h.o q hq).far k (fun _ e => e.elim), h.f, h.k.trans k⟩
theorem Lj.start {w w' : World} {W : Nat} {js : List (Int × Int × Int)} (h2 : W ≤ 16) (k : Keeps (fun _ => False) ((w.alloc (.cells (madeCells #[.slice none 0 0] W) 120)).alloc (.cells #[.slice (some ⟨w.heap.size, 0, none⟩) W W, .int .i64 0, .slice none 0 0, .slice none 0 0] 118)) w') : Lj w w' W js 0 (w.heap.size + 1) w.heap.size (fun _ => bJ) := by
  refine ⟨⟨_, _, _, _, by rw [hJ_zero]; exact hm_fresh _ W h2 k, fun y hy => by omega, (fun k hk => by omega)⟩, ⟨(fun i hi => by omega), (fun i hi => by omega), (fun i j hi => by omega), (fun i x hx => by cases hx)⟩, (fun k hk => by omega), (fun k hk => rfl), (fun k hk => by omega), (fun k hk => by omega), ?_⟩
  exact (((Keeps.refl (fun _ => False) w).alloc _).alloc _).trans k
/-- One more job. -/
theorem Lj.next {w w1 w2 w3 : World} {W : Nat} {js : List (Int × Int × Int)} {i hb qb : Nat} {J : Nat → Bd} {B : Bd} {P P' : Nat → Prop} {qv' : Nat → Value} {ev en : Value} (h : Lj w w1 W js i hb qb J)
    (k12 : Keeps (fun _ => False) w1 w2) (hB : BdOk B) (hn : B.n = 1) (hi : B.ins 0 = List.replicate (lenJ js i) adI) (hG : ∀ y, fB B y → w1.heap.size ≤ y ∧ y < w2.heap.size) (o : Bo B w2 sJ)
    (k23 : Keeps P w2 w3) (hP : ∀ y, P y → w.heap.size ≤ y ∧ y < w1.heap.size) (hPd : ∀ k, k < i → ∀ y, fB (J k) y → ¬ P y)
    (m : Hm w3 P' (fun k => (upd J i B k).T 0) hb qb qv' ev en (hJ (whoJ js W) (tagJ js) W (i + 1))) (hP' : ∀ y, P' y → P y ∨ w2.heap.size ≤ y) : Lj w w3 W js (i + 1) hb qb (upd J i B) := by
  have s12 := k12.size
  have s23 := k23.size
  have sw := h.k.size
  have hlt : ∀ k, k < i → ∀ y, fB (J k) y → y < w1.heap.size := fun k hk y hy => (h.o k hk).lt hy
  refine ⟨⟨P', qv', ev, en, m, fun y hy => ?_, fun k hk y hy hy' => ?_⟩, ⟨fun k hk => ?_, fun k hk => ?_, fun k j hk hj hkj y hy hy' => ?_, fun k x hx => ?_⟩, fun k hk => ?_, fun k hk => ?_, fun k hk => ?_, fun k hk y hy => ?_, ?_⟩
  · rcases hP' y hy with e | e
    · exact (hP y e).1
    · omega
  · by_cases e : k = i
    · subst e
      rw [upd_same] at hy
      have := hG y hy
      rcases hP' y hy' with e | e
      · have := (hP y e).2; omega
      · omega
    · rw [upd_other _ _ e] at hy
      have := hlt k (by omega) y hy
      rcases hP' y hy' with e' | e'
      · exact hPd k (by omega) y hy e'
      · omega
  · by_cases e : k = i
    · subst e; rw [upd_same]; exact hB
    · rw [upd_other _ _ e]; exact h.j.b k (by omega)
  · by_cases e : k = i
    · subst e; rw [upd_same]; exact hn
    · rw [upd_other _ _ e]; exact h.j.o k (by omega)
  · by_cases e : k = i
    · subst e
      rw [upd_same] at hy
      rw [upd_other _ _ (fun e => hkj e.symm)] at hy'
      have := hlt j (by omega) y hy'
      have := hG y hy
      omega
    · rw [upd_other _ _ e] at hy
      by_cases e' : j = i
      · subst e'
        rw [upd_same] at hy'
        have := hlt k (by omega) y hy
        have := hG y hy'
        omega
      · rw [upd_other _ _ e'] at hy'
        exact h.j.d k j (by omega) (by omega) hkj y hy hy'
  · by_cases e : k = i
    · subst e
      rw [upd_same, hi] at hx
      rw [List.eq_of_mem_replicate hx]; rfl
    · rw [upd_other _ _ e] at hx; exact h.j.a k x hx
  · by_cases e : k = i
    · subst e
      unfold lnJ
      rw [upd_same, hi, List.length_replicate]
    · have := h.l k (by omega)
      unfold lnJ at this ⊢
      rw [upd_other _ _ e]; exact this
  · have := h.z k (by omega)
    unfold lnJ at this ⊢
    rw [upd_other _ _ (by omega)]; exact this
  · by_cases e : k = i
    · subst e
      rw [upd_same]
      exact o.far k23 (fun y hy e => by have := (hP y hy).2; have := (hG y e).1; omega)
    · rw [upd_other _ _ e]
      exact ((h.o k (by omega)).far k12 (fun _ e => e.elim)).far k23 (fun y hy e' => hPd k (by omega) y e' hy)
  · by_cases e : k = i
    · subst e
      rw [upd_same] at hy
      have := (hG y hy).1; omega
    · rw [upd_other _ _ e] at hy; exact h.f k (by omega) y hy
  · have k13 : Keeps P w w3 := (h.k.mono (fun _ e => e.elim)).trans ((k12.mono (fun _ e => e.elim)).trans k23)
    exact ⟨k13.os, k13.tape, k13.output, k13.size, fun y hy _ => k13.block y hy (fun e => by have := (hP y e).1; omega)⟩
end Go.Proofs.YtdpebhdjcgiboaaGreat
