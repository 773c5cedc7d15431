import Derived.Test.YtdpebhdjcgiboaaGreatKSg9
namespace Go.Proofs.YtdpebhdjcgiboaaGreat
set_option linter.unusedSimpArgs false
open Go.ChangeShapes Go.WideShapes Go.ChangeAt Go.RowKit Go.MuLone Go.RwLone
set_option linter.unusedVariables false
set_option maxRecDepth 100000
set_option maxHeartbeats 3200000
def slP {β : Type} (a : Value × β) : List Value := [a.1]
theorem infoSlI : (Tryz.prog.info? 102).map (fun i => (i.zero, i.size, i.bytes)) = some (some (.slice none 0 0), 1, 24) := by kernel_rfl
theorem infoU64 : (Tryz.prog.info? 55).map (fun i => (i.zero, i.size, i.bytes)) = some (some (.int .u64 0), 1, 8) := by kernel_rfl
/-- A list in sight, nil or not, behind a row of one's own, in a drawn region. -/
theorem app_in_wp {α : Type} {cs : α → List Value} {w : World} {o : Oper} {a : Act} {K : Act → World → Prop} {Q : Exit → Act → World → Prop} (s x : Operand) (t e : TypeId)
    (ho : o.op = .call { callee := .builtin .append, args := #[s, x], argTypes := #[t, t] })
    {z : Value} {n bytes : Nat} (hu : Tryz.prog.underlying t = some (.slice e)) (hinfo : (Tryz.prog.info? e).map (fun i => (i.zero, i.size, i.bytes)) = some (some z, n, bytes)) (hzs : z.cells.size = n) (hn0 : 0 < n) (hn : ∀ y, (cs y).length = n)
    (B : Nat) (v : Value) (xs : List α) (hown : OwG cs e n w B v xs) (hs : a.eval s = v) (C : Nat) (v2 : Value) (ys : List α) (hx : a.eval x = v2) (hin : InG cs w C v2 ys) (h1 : ∀ y ∈ ys, ∀ u ∈ cs y, u.oneCell' = true)
    (hm : xs.length + ys.length ≤ maxLen) (hbytes : (xs.length + ys.length) * bytes ≤ 140737488355328) (hB : B ≤ w.heap.size)
    (h : ∀ v' w', OwG cs e n w' B v' (xs ++ ys) → Below B w w' → KpT e w w' → K (a.put o.dst v') w') :
    o.wp Tryz.prog a w K Q := by
  obtain ⟨i0, hi, hz0, hz1, hz2⟩ := info_parts hinfo
  have hin2 := hin
  obtain ⟨ao, cap, rfl, hlc, hno, hc⟩ := hin
  match ao, hno, hc with
  | none, hno, hc =>
    have hc0 := hno rfl
    have hv : ys.length = 0 := by omega
    have hv' : ys = [] := List.eq_nil_of_length_eq_zero hv
    subst hv' hc0
    have hrun := run_append_owned_none (P := Tryz.prog) (w := w) B t o.type e i0 n hu hi v xs.length _ hown
    have hk := h v w (by rw [List.append_nil]; exact hown) (Below.refl _ _) (fun _ _ _ _ _ _ => rfl)
    unfold Oper.wp
    simp only [List.length_nil] at hx
    simp [execOp, ho, resolve, invoke, builtin, hs, hx, hrun, Result.andThen]
    exact hk
  | some ad, hno, hc =>
    exact app_more_wp s x t e ho hu hinfo hzs hn0 hn B v xs hown hs C ad ys.length cap ys hx hin2 h1 hm hbytes hB h
/-- A copy in memory of its own. -/
theorem copy_wp {α : Type} {cs : α → List Value} {w : World} {o : Oper} {a : Act} {K : Act → World → Prop} {Q : Exit → Act → World → Prop} (s x : Operand) (t e : TypeId)
    (ho : o.op = .call { callee := .builtin .append, args := #[s, x], argTypes := #[t, t] })
    {z : Value} {n bytes : Nat} (hu : Tryz.prog.underlying t = some (.slice e)) (hinfo : (Tryz.prog.info? e).map (fun i => (i.zero, i.size, i.bytes)) = some (some z, n, bytes)) (hzs : z.cells.size = n) (hn0 : 0 < n) (hn : ∀ y, (cs y).length = n)
    (g : Nat) (hg : g = w.heap.size) (hs : a.eval s = .slice (some ⟨g, 0, none⟩) 0 0) (C : Nat) (v2 : Value) (ys : List α) (hx : a.eval x = v2) (hin : InG cs w C v2 ys) (hC : C ≤ w.heap.size) (h1 : ∀ y ∈ ys, ∀ u ∈ cs y, u.oneCell' = true)
    (hm : ys.length ≤ maxLen) (hbytes : ys.length * bytes ≤ 140737488355328)
    (h : ∀ v' w', OwG cs e n w' w.heap.size v' ys → Below w.heap.size w w' → K (a.put o.dst v') w') :
    o.wp Tryz.prog a (w.alloc (.cells #[] e)) K Q := by
  subst hg
  have b0 : Below w.heap.size w (w.alloc (.cells #[] e)) := (Below.refl _ _).alloc (Nat.le_refl _) _
  exact app_in_wp s x t e ho hu hinfo hzs hn0 hn w.heap.size _ [] (OwG.made cs e n w w.heap.size (Nat.le_refl _)) hs C v2 ys hx (hin.later (b0.mono hC)) h1 (by simpa using hm) (by simpa using hbytes) (by rw [szAl]; omega) (fun v' w' h1 h2 _ => h v' w' h1 (b0.trans h2))
theorem copy_list {α : Type} {cs : α → List Value} {w : World} {ops : Array Oper} {rest : List Oper} {o : Oper} {a : Act} {Q : Exit → Act → World → Prop} (hgd : o.guard = none) (s x : Operand) (t e : TypeId)
    (ho : o.op = .call { callee := .builtin .append, args := #[s, x], argTypes := #[t, t] })
    {z : Value} {n bytes : Nat} (hu : Tryz.prog.underlying t = some (.slice e)) (hinfo : (Tryz.prog.info? e).map (fun i => (i.zero, i.size, i.bytes)) = some (some z, n, bytes)) (hzs : z.cells.size = n) (hn0 : 0 < n) (hn : ∀ y, (cs y).length = n)
    (g : Nat) (hg : g = w.heap.size) (hs : a.eval s = .slice (some ⟨g, 0, none⟩) 0 0) (C : Nat) (v2 : Value) (ys : List α) (hx : a.eval x = v2) (hin : InG cs w C v2 ys) (hC : C ≤ w.heap.size) (h1 : ∀ y ∈ ys, ∀ u ∈ cs y, u.oneCell' = true)
    (hm : ys.length ≤ maxLen) (hbytes : ys.length * bytes ≤ 140737488355328)
    (h : ∀ v' w', OwG cs e n w' w.heap.size v' ys → Below w.heap.size w w' → wpList Tryz.prog ops Q rest (a.put o.dst v') w') :
    wpList Tryz.prog ops Q (o :: rest) a (w.alloc (.cells #[] e)) :=
  wpList_plain hgd fun _ hK => copy_wp s x t e ho hu hinfo hzs hn0 hn g hg hs C v2 ys hx hin hC h1 hm hbytes (fun v' w' p1 p2 => hK _ _ (h v' w' p1 p2))
theorem wdC_one (x : Int) : ∀ u ∈ wdC x, u.oneCell' = true := by
  intro u hu
  simp [wdC] at hu
  subst hu
  rfl
/-- A litmus program in sight, told by pairs. -/
theorem InG.at1 {β : Type} {w : World} {C : Nat} {a : Option Addr} {n c : Nat} {ps : List (Value × β)} (h : InG slP w C (.slice a n c) ps) (i : Nat) (hi : i < ps.length) : ∃ tb off, a = some ⟨tb, off, none⟩ ∧ tb < C ∧ w.cell? ⟨tb, off + i, none⟩ = some ps[i].1 := by
  obtain ⟨b, off, e, hl, hc⟩ := InG.cell (cs := slP) (n := 1) (fun _ => rfl) h i hi (by decide)
  have := hc 0 (by decide)
  rw [Nat.mul_one, Nat.add_zero] at this
  exact ⟨b, off, e, hl, this⟩
theorem LitG.of {w : World} {C : Nat} {ca : Option Addr} {cc : Nat} {ta : Option Addr} {n tc : Nat} {cs : List Int} {ts : List (List I8)} (ps : List (Value × List I8)) (hc : InG wdC w C (.slice ca cs.length cc) cs) (ht : InG slP w C (.slice ta n tc) ps) (hi : ∀ p ∈ ps, InG iC w C p.1 p.2) (hts : ps.map Prod.snd = ts) (l1 : cs.length ≤ 140737488355328) (l2 : ts.length ≤ 140737488355328) (l3 : ∀ i (hi : i < ts.length), ts[i].length ≤ 140737488355328) :
    ∃ tv, LitG w C ca cc ta tc tv cs ts := by
  subst hts
  refine ⟨fun i => ((ps[i]?).map Prod.fst).getD undef, hc, fun i hi' => ?_, fun i hi' => ?_, l1, l2, l3⟩
  · have h1 : i < ps.length := by simpa using hi'
    obtain ⟨tb, off, e, hl, hc⟩ := ht.at1 i h1
    refine ⟨tb, off, e, hl, ?_⟩
    rw [hc]
    simp [List.getElem?_eq_getElem h1]
  · have h1 : i < ps.length := by simpa using hi'
    have := hi ps[i] (List.getElem_mem h1)
    simpa [List.getElem?_eq_getElem h1] using this
abbrev cpW (w : World) (c : Array Value) : World := (lgW w c).alloc (.cells #[.slice none 0 0, .slice none 0 0] 49)
/-- In the midst of copying a program. -/
structure Cp (w wr : World) (c : Array Value) (cb : Nat) (cv tvv : Value) (cs : List Int) (ps : List (Value × List I8)) : Prop where
  lb : wr.heap[cb]? = some (.cells #[cv, tvv] 49)
  oc : OwW wr (w.heap.size + 2) cv cs
  ot : OwG slP 102 1 wr (w.heap.size + 2) tvv ps
  oi : ∀ p ∈ ps, OwG iC 106 8 wr (w.heap.size + 2) p.1 p.2
  bl : Below (w.heap.size + 2) (cpW w c) wr
  cl : w.heap.size + 2 ≤ cb
end Go.Proofs.YtdpebhdjcgiboaaGreat
