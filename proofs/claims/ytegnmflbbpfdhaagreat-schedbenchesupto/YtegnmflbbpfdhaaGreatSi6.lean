import Derived.Test.YtegnmflbbpfdhaaGreatSi3
namespace Go.Proofs.YtegnmflbbpfdhaaGreat
open Go.ChangeShapes Go.WideShapes Go.ChangeAt Go.RowKit Go.MuLone Go.RwLone
set_option linter.unusedVariables false
set_option maxRecDepth 100000
set_option maxHeartbeats 6400000
/-- A word turned. -/
def flipW (x : Int) : Int := bits BinOp.xor IntKind.u64 (if IntKind.u64.signed = true then -1 else IntKind.u64.max) x
theorem OwG.pre {α : Type} {cs : α → List Value} {e : TypeId} {n : Nat} {w : World} {B g m c : Nat} {xs ys : List α} (h : OwG cs e n w B (.slice (some ⟨g, 0, none⟩) m c) (xs ++ ys)) : InG cs w w.heap.size (.slice (some ⟨g, 0, none⟩) xs.length c) xs := by
  obtain ⟨ao, cap, e1, h1, h2, h3⟩ := h.in
  injection e1 with e1 e2 e3
  subst e1 e3
  refine ⟨_, _, rfl, by rw [List.length_append] at h1; omega, (fun e => by cases e), fun j u hj => h3 j u ?_⟩
  rw [List.flatMap_append, List.getElem?_append_left (List.getElem?_eq_some_iff.1 hj).1]
  exact hj
/-- What was lent is a program in sight. -/
theorem Lt.lit {w : World} {B : Nat} {cs : List Int} {ts : List (List I8)} {gc gcap : Nat} {tvv : Value} {ab acap : Nat} {ps : List (Value × List I8)} {v79 : Value} (h : Lt w B cs ts gc gcap tvv ab acap ps v79) (l1 : cs.length ≤ 140737488355328) (l2 : ts.length ≤ 140737488355328) (l3 : ∀ i (hi : i < ts.length), ts[i].length ≤ 140737488355328) : ∃ tv, LitG w w.heap.size (some ⟨gc, 0, none⟩) gcap (some ⟨ab, 0, none⟩) acap tv cs ts := by
  have hpl : ps.length = ts.length := by have := congrArg List.length h.pl; simpa using this
  have hts : (ps.map cutP).map Prod.snd = ts := by
    have : (ps.map cutP).map Prod.snd = (ps.map Prod.snd).map (fun l => l.take (l.length - 2)) := by rw [List.map_map, List.map_map]; rfl
    rw [this, h.pl, List.map_map]
    have : ∀ l : List I8, ((fun l : List I8 => l.take (l.length - 2)) ∘ (fun l => l ++ [mkI 77, mkI 78])) l = l := fun l => by simp
    rw [show ((fun l : List I8 => l.take (l.length - 2)) ∘ (fun l => l ++ [mkI 77, mkI 78])) = id from funext this]
    simp
  have hoa := h.oa
  have ht : InG slP w w.heap.size (.slice (some ⟨ab, 0, none⟩) (ps.map cutP).length acap) (ps.map cutP) := hoa.pre
  refine LitG.of (ps.map cutP) h.oc.pre ht (fun p hp => ?_) hts l1 l2 l3
  obtain ⟨q, hq, rfl⟩ := List.mem_map.1 hp
  have hq2 : q.2 ∈ ps.map Prod.snd := List.mem_map.2 ⟨q, hq, rfl⟩
  rw [h.pl] at hq2
  obtain ⟨l, _, e⟩ := List.mem_map.1 hq2
  have ho := h.oi q hq
  rw [← e] at ho
  obtain ⟨g, c, e2, _, _⟩ := owG_some ho (by simp)
  rw [e2] at ho
  have hp := ho.pre
  have ec : cutP q = (.slice (some ⟨g, 0, none⟩) l.length c, l) := by
    unfold cutP cutV
    rw [e2, ← e]
    simp
  rw [ec]
  exact hp
theorem Lt.later {w w' : World} {B : Nat} {cs : List Int} {ts : List (List I8)} {gc gcap : Nat} {tvv : Value} {ab acap : Nat} {ps : List (Value × List I8)} {v79 : Value} (h : Lt w B cs ts gc gcap tvv ab acap ps v79) (k : Below w.heap.size w w') : Lt w' B cs ts gc gcap tvv ab acap ps v79 :=
  ⟨h.oc.later k, h.ot.later k, h.oa.later k, fun p hp => (h.oi p hp).later k, h.o9.later k, h.inc, h.pl, h.n9⟩
end Go.Proofs.YtegnmflbbpfdhaaGreat

namespace Go.Proofs.YtegnmflbbpfdhaaGreat
open Go.ChangeShapes Go.WideShapes Go.ChangeAt Go.RowKit Go.MuLone Go.RwLone
set_option linter.unusedVariables false
set_option maxRecDepth 100000
set_option maxHeartbeats 6400000
def wrI : I8 := ⟨2, 0, 0, -1, 77, 0, 0, 0⟩
/-- One instruction stored into a row of one's own. -/
theorem owI_set {w : World} {B g n c : Nat} {xs : List I8} (h : OwG iC 31 8 w B (.slice (some ⟨g, 0, none⟩) n c) xs) (j : Nat) (hj : j < xs.length) (x : I8) :
    OwG iC 31 8 ((((((((w.setCell ⟨g, j * 8, none⟩ (.int .i64 x.op)).setCell ⟨g, j * 8 + 1, none⟩ (.int .i64 x.c)).setCell ⟨g, j * 8 + 2, none⟩ (.int .i64 x.r)).setCell ⟨g, j * 8 + 3, none⟩ (.int .i64 x.nr)).setCell ⟨g, j * 8 + 4, none⟩ (.int .u64 x.ni)).setCell ⟨g, j * 8 + 5, none⟩ (.int .i64 x.orr)).setCell ⟨g, j * 8 + 6, none⟩ (.int .u64 x.oi)).setCell ⟨g, j * 8 + 7, none⟩ (.int .i64 x.n)) B (.slice (some ⟨g, 0, none⟩) n c) (xs.set j x) := by
  have hnx := (owG_cap h).1
  subst hnx
  have h1 := (World.ownsRow.stored h (j * 8) (.int .i64 x.op)).1
  have h2 := (World.ownsRow.stored h1 (j * 8 + 1) (.int .i64 x.c)).1
  have h3 := (World.ownsRow.stored h2 (j * 8 + 2) (.int .i64 x.r)).1
  have h4 := (World.ownsRow.stored h3 (j * 8 + 3) (.int .i64 x.nr)).1
  have h5 := (World.ownsRow.stored h4 (j * 8 + 4) (.int .u64 x.ni)).1
  have h6 := (World.ownsRow.stored h5 (j * 8 + 5) (.int .i64 x.orr)).1
  have h7 := (World.ownsRow.stored h6 (j * 8 + 6) (.int .u64 x.oi)).1
  have h8 := (World.ownsRow.stored h7 (j * 8 + 7) (.int .i64 x.n)).1
  have e : (xs.set j x).flatMap iC = ((((((((xs.flatMap iC).set (j * 8) (.int .i64 x.op)).set (j * 8 + 1) (.int .i64 x.c)).set (j * 8 + 2) (.int .i64 x.r)).set (j * 8 + 3) (.int .i64 x.nr)).set (j * 8 + 4) (.int .u64 x.ni)).set (j * 8 + 5) (.int .i64 x.orr)).set (j * 8 + 6) (.int .u64 x.oi)).set (j * 8 + 7) (.int .i64 x.n) := by
    apply List.ext_getElem?
    intro k
    have hl : (xs.flatMap iC).length = xs.length * 8 := flat_len iC 8 (fun _ => rfl) xs
    have hl2 : ((xs.set j x).flatMap iC).length = xs.length * 8 := by rw [flat_len iC 8 (fun _ => rfl), List.length_set]
    rcases Nat.lt_or_ge k (xs.length * 8) with hk | hk
    · have hi : k / 8 < xs.length := by omega
      have hr : k % 8 < 8 := Nat.mod_lt _ (by decide)
      have ek : k = k / 8 * 8 + k % 8 := by omega
      have l1 : ((xs.set j x).flatMap iC)[k]? = (iC ((xs.set j x)[k / 8]'(by simpa using hi)))[k % 8]? := by
        conv => lhs; rw [ek]
        exact flat_get iC 8 (fun _ => rfl) (xs.set j x) (k / 8) (by simpa using hi) (k % 8) hr
      have l2 : (xs.flatMap iC)[k]? = (iC xs[k / 8])[k % 8]? := by
        conv => lhs; rw [ek]
        exact flat_get iC 8 (fun _ => rfl) xs (k / 8) hi (k % 8) hr
      rw [l1]
      simp only [List.getElem?_set, List.length_set, hl]
      by_cases ej : k / 8 = j
      · have hx : (xs.set j x)[k / 8]'(by simpa using hi) = x := by simp [ej]
        rw [hx]
        have : k % 8 = 0 ∨ k % 8 = 1 ∨ k % 8 = 2 ∨ k % 8 = 3 ∨ k % 8 = 4 ∨ k % 8 = 5 ∨ k % 8 = 6 ∨ k % 8 = 7 := by omega
        rcases this with r | r | r | r | r | r | r | r
        all_goals
          have hkk : k = j * 8 + k % 8 := by omega
          rw [r] at hkk ⊢
          subst hkk
          repeat' split
          all_goals first | rfl | omega
      · have hx : (xs.set j x)[k / 8]'(by simpa using hi) = xs[k / 8] := by simp [Ne.symm ej]
        rw [hx]
        repeat' split
        all_goals first | omega | exact l2.symm
    · rw [List.getElem?_eq_none (by omega), List.getElem?_eq_none (by simp only [List.length_set]; omega)]
  unfold OwG
  rw [e, List.length_set]
  exact h8
end Go.Proofs.YtegnmflbbpfdhaaGreat

namespace Go.Proofs.YtegnmflbbpfdhaaGreat
open Go.ChangeShapes Go.WideShapes Go.ChangeAt Go.RowKit Go.MuLone Go.RwLone
set_option linter.unusedVariables false
set_option maxRecDepth 100000
set_option maxHeartbeats 6400000
variable {w : World} {B : Nat} {cs : List Int} {ts : List (List I8)} {gc gcap : Nat} {tvv : Value} {ab acap : Nat} {ps : List (Value × List I8)} {v79 : Value}
/-- A word of what was lent is stored. -/
theorem Lt.setC (h : Lt w B cs ts gc gcap tvv ab acap ps v79) (i : Nat) (hi : i < cs.length) (y : Int) : Lt (w.setCell ⟨gc, i, none⟩ (.int .u64 y)) B (cs.set i y) ts gc gcap tvv ab acap ps v79 := by
  have ks : Keeps (fun x => x = gc) w (w.setCell ⟨gc, i, none⟩ (.int .u64 y)) := Keeps.setCell (B := fun x => x = gc) (Keeps.refl _ _) rfl _
  obtain ⟨cur, hcur⟩ := blk h.oc rfl
  have ap : ∀ {α : Type} {f : α → List Value} {e : TypeId} {n : Nat} {v : Value} {xs : List α}, OwG f e n w B v xs → e ≠ 22 → OwG f e n (w.setCell ⟨gc, i, none⟩ (.int .u64 y)) B v xs := fun ho hne => owK ho ks (fun g hg e => by
    obtain ⟨c2, h2⟩ := blk ho hg
    exact neT h2 hcur hne e)
  refine ⟨?_, ap h.ot (by decide), ap h.oa (by decide), fun p hp => ap (h.oi p hp) (by decide), ap h.o9 (by decide), h.inc, h.pl, h.n9⟩
  have hoc : w.ownsRow B 22 1 (.slice (some ⟨gc, 0, none⟩) (cs.length + 2) gcap) (cs.length + 2) ((cs ++ [771, 772]).flatMap wdC) := by
    have := h.oc
    unfold OwW OwG at this
    rw [List.length_append] at this
    exact this
  have h2 := (World.ownsRow.stored hoc i (.int .u64 y)).1
  have e : (cs.set i y ++ [771, 772]).flatMap wdC = ((cs ++ [771, 772]).flatMap wdC).set i (.int .u64 y) := by
    rw [flat_wd, flat_wd, ← List.map_set, List.set_append_left _ _ hi]
  unfold OwW OwG
  rw [e, List.length_append, List.length_set]
  exact h2
theorem Lt.pu (h : Lt w B cs ts gc gcap tvv ab acap ps v79) (i : Nat) (hi : i < ts.length) : ∃ hp : i < ps.length, ps[i].2 = ts[i] ++ [mkI 77, mkI 78] ∧ ∃ g c, ps[i].1 = .slice (some ⟨g, 0, none⟩) (ts[i].length + 2) c := by
  have hpl : ps.length = ts.length := by have := congrArg List.length h.pl; simpa using this
  have hp : i < ps.length := by omega
  have e : ps[i].2 = ts[i] ++ [mkI 77, mkI 78] := by
    have h1 : (ps.map Prod.snd)[i]? = some ps[i].2 := by rw [List.getElem?_map, List.getElem?_eq_getElem hp]; rfl
    rw [h.pl, List.getElem?_map, List.getElem?_eq_getElem hi] at h1
    exact (Option.some.inj h1).symm
  have ho := h.oi ps[i] (List.getElem_mem hp)
  obtain ⟨g, c, e2, _, _⟩ := owG_some ho (by rw [e]; simp)
  refine ⟨hp, e, g, c, ?_⟩
  rw [e2, e, List.length_append]
  rfl
/-- An instruction of what was lent is stored. -/
theorem Lt.setI {w' : World} (h : Lt w B cs ts gc gcap tvv ab acap ps v79) (i j : Nat) (hi : i < ts.length) (hj : j < ts[i].length) (x : I8) (hp : i < ps.length) (g c : Nat) (hg : ps[i].1 = .slice (some ⟨g, 0, none⟩) (ts[i].length + 2) c)
    (k : Keeps (fun x => x = g) w w') (ho : OwG iC 31 8 w' B (.slice (some ⟨g, 0, none⟩) (ts[i].length + 2) c) (ps[i].2.set j x)) :
    Lt w' B cs (ts.set i (ts[i].set j x)) gc gcap tvv ab acap (ps.set i (ps[i].1, ps[i].2.set j x)) v79 := by
  have hpl : ps.length = ts.length := by have := congrArg List.length h.pl; simpa using this
  obtain ⟨_, hpu, _⟩ := h.pu i hi
  have hoi := h.oi ps[i] (List.getElem_mem hp)
  rw [hg] at hoi
  obtain ⟨cur, hcur⟩ := blk hoi rfl
  have ap : ∀ {α : Type} {f : α → List Value} {e : TypeId} {n : Nat} {v : Value} {xs : List α}, OwG f e n w B v xs → e ≠ 31 → OwG f e n w' B v xs := fun ho hne => owK ho k (fun g' hg' e => by
    obtain ⟨c2, h2⟩ := blk ho hg'
    exact neT h2 hcur hne e)
  have hfst : ∀ m (hm : m < (ps.set i (ps[i].1, ps[i].2.set j x)).length), ((ps.set i (ps[i].1, ps[i].2.set j x))[m]).1 = (ps[m]'(by simpa using hm)).1 := fun m hm => by
    rw [List.getElem_set]
    split
    · rename_i e; subst e; rfl
    · rfl
  have hfl : (ps.set i (ps[i].1, ps[i].2.set j x)).flatMap slP = ps.flatMap slP := by
    have : ∀ l : List (Value × List I8), l.flatMap slP = l.map Prod.fst := fun l => by
      induction l with
      | nil => rfl
      | cons a r ih => rw [List.flatMap_cons, ih]; rfl
    rw [this, this]
    apply List.ext_getElem (by simp)
    intro m h1 h2
    simp only [List.getElem_map]
    exact hfst m (by simpa using h1)
  have hfl2 : ((ps.set i (ps[i].1, ps[i].2.set j x)).map cutP ++ [(v79, [mkI 79])]).flatMap slP = (ps.map cutP ++ [(v79, [mkI 79])]).flatMap slP := by
    have : ∀ l : List (Value × List I8), l.flatMap slP = l.map Prod.fst := fun l => by
      induction l with
      | nil => rfl
      | cons a r ih => rw [List.flatMap_cons, ih]; rfl
    rw [List.flatMap_append, List.flatMap_append, this (List.map cutP _), this (List.map cutP ps)]
    congr 1
    apply List.ext_getElem (by simp)
    intro m h1 h2
    simp only [List.getElem_map]
    unfold cutP
    dsimp only
    rw [hfst m (by simpa using h1)]
  refine ⟨ap h.oc (by decide), ?_, ?_, fun p hpp => ?_, ?_, ?_, ?_, fun p hpp a b h1 h2 => ?_⟩
  · have := ap h.ot (by decide)
    unfold OwG at this ⊢
    rw [hfl, List.length_set]
    exact this
  · have := ap h.oa (by decide)
    unfold OwG at this ⊢
    rw [hfl2, List.length_set]
    simpa using this
  · obtain ⟨m, hm, rfl⟩ := List.getElem_of_mem hpp
    have hm' : m < ps.length := by simpa using hm
    by_cases e : i = m
    · subst e
      simp only [List.getElem_set_self]
      rw [hg]
      exact ho
    · simp only [List.getElem_set_ne e]
      refine owK (h.oi ps[m] (List.getElem_mem hm')) k (fun g' hg' eg => ?_)
      have hinc := List.pairwise_iff_getElem.1 h.inc
      have hgg : ps[i].1.ownBlock = some g := by rw [hg]; rfl
      rcases Nat.lt_or_gt_of_ne e with hlt | hlt
      · have := hinc i m hp hm' hlt g g' hgg hg'
        omega
      · have := hinc m i hm' hp hlt g' g hg' hgg
        omega
  · refine owK h.o9 k (fun g' hg' eg => ?_)
    have hgg : ps[i].1.ownBlock = some g := by rw [hg]; rfl
    have := h.n9 ps[i] (List.getElem_mem hp) g g' hgg hg'
    omega
  · refine List.pairwise_iff_getElem.2 (fun a b ha hb hab x' y' h1 h2 => ?_)
    rw [hfst a ha] at h1
    rw [hfst b hb] at h2
    exact List.pairwise_iff_getElem.1 h.inc a b (by simpa using ha) (by simpa using hb) hab x' y' h1 h2
  · rw [List.map_set, List.map_set, h.pl]
    dsimp only
    rw [hpu, List.set_append_left _ _ hj]
  · obtain ⟨m, hm, rfl⟩ := List.getElem_of_mem hpp
    rw [hfst m hm] at h1
    exact h.n9 _ (List.getElem_mem (by simpa using hm)) a b h1 h2
end Go.Proofs.YtegnmflbbpfdhaaGreat
