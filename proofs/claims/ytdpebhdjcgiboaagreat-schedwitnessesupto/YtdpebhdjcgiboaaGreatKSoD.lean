import Derived.Test.YtdpebhdjcgiboaaGreatKSo9
import Derived.Maps.OwnSet
import Derived.DeepKeys4
import Derived.Great.BuildSlice
import Derived.Deep.AppendLies
import Derived.Deep.DeepAppendRoom
namespace Go.Proofs.YtdpebhdjcgiboaaGreat
open Go.ChangeShapes Go.WideShapes Go.ChangeAt Go.RowKit Go.MuLone Go.RwLone
set_option linter.unusedVariables false
set_option maxRecDepth 100000
set_option maxHeartbeats 6400000
theorem laidOutP : laidOutB Tryz.prog = true := by kernel_rfl
theorem rowSt : (179 : TypeId) < Tryz.prog.types.size := of_decide_eq_true (by kernel_rfl)
theorem wideSt : (match Tryz.prog.underlying 179 with | some (.array _ _) | some (.struct _) => true | _ => false) = true := by kernel_rfl
theorem lawSt : WideMaps.KeyLaw Tryz.prog 179 := deep_law_laid laidOutP (m := 2) (by omega) rowSt (by kernel_rfl) wideSt
/-- States are keys. -/
theorem keyedSt : Go.Maps.Keyed Tryz.prog 179 := Go.Maps.Keyed.of_law lawSt
theorem mapM_all {α β : Type} {f : α → Option β} {g : α → β} : ∀ {l : List α}, (∀ a ∈ l, f a = some (g a)) → l.mapM f = some (l.map g)
  | [], _ => rfl
  | a :: l, h => by
    rw [List.mapM_cons, h a (List.mem_cons_self ..), mapM_all (fun b hb => h b (List.mem_cons_of_mem _ hb))]
    rfl
theorem cellsSt : Tryz.prog.cellsOf 179 = 24 := by kernel_rfl
theorem cellsU : Tryz.prog.cellsOf 55 = 1 := by kernel_rfl
theorem typeSt : Tryz.prog.keyType 179 = true := by kernel_rfl
theorem undU : Tryz.prog.underlying 55 = some (.int .u64) := by kernel_rfl
theorem wfU {x : Int} (h : 0 ≤ x ∧ x < 18446744073709551616) : (Lit.int .u64 x).wf = true := by
  have h1 : IntKind.u64.min = 0 := by decide
  have h2 : IntKind.u64.max = 18446744073709551615 := by decide
  simp only [Lit.wf, h1, h2, Bool.and_eq_true, decide_eq_true_eq]
  omega
/-- Every row of 24 words is a key. -/
theorem keySt (v : List Int) (hl : v.length = 24) (hb : ∀ x ∈ v, 0 ≤ x ∧ x < 18446744073709551616) : ∃ kl, keyOf Tryz.prog 179 (.agg (rowU v).toArray) = some kl := by
  obtain ⟨d, hd⟩ : ∃ d, Tryz.prog.types.size = d + 1 := ⟨Tryz.prog.types.size - 1, (Nat.succ_pred_eq_of_pos (Nat.lt_of_le_of_lt (Nat.zero_le _) rowSt)).symm⟩
  have hlen : (rowU v).length = 24 := by simp [rowU, hl]
  have hf : (Value.agg (rowU v).toArray).formed Tryz.prog 179 = true := by
    simp [Value.formed, cellsSt, hlen]
  have hk : Tryz.prog.keyLits (Tryz.prog.types.size + 1) 179 (rowU v) = some (((List.range 24).map (fun i => [Lit.int .u64 (v.getD i 0)])).flatten) := by
    unfold Program.keyLits
    rw [uSt]
    dsimp only
    rw [if_pos (by rw [cellsSt]; exact hlen), cellsU, hd]
    rw [mapM_all (g := fun i => [Lit.int .u64 (v.getD i 0)]) (fun i hi => ?_)]
    · rfl
    · have hi24 : i < 24 := List.mem_range.1 hi
      have hiv : i < v.length := by omega
      have e : ((rowU v).drop (i * 1)).take 1 = [.int .u64 (v.getD i 0)] := by
        rw [Nat.mul_one, List.drop_eq_getElem_cons (by omega)]
        simp [rowU, List.getD_eq_getElem?_getD, List.getElem?_eq_getElem hiv]
      rw [e]
      unfold Program.keyLits
      rw [undU]
      dsimp only
      rw [if_pos]
      refine ⟨rfl, ?_⟩
      have hm : v.getD i 0 ∈ v := by rw [List.getD_eq_getElem?_getD, List.getElem?_eq_getElem hiv]; exact List.getElem_mem hiv
      exact wfU (hb _ hm)
  unfold keyOf
  rw [uSt]
  dsimp only
  rw [typeSt, hf]
  have e2 : (Value.agg (rowU v).toArray).cells.toList = rowU v := rfl
  rw [e2, hk]
  exact ⟨_, rfl⟩
end Go.Proofs.YtdpebhdjcgiboaaGreat

namespace Go.Proofs.YtdpebhdjcgiboaaGreat
open Go.ChangeShapes Go.WideShapes Go.ChangeAt Go.RowKit Go.MuLone Go.RwLone
set_option linter.unusedVariables false
set_option maxRecDepth 100000
set_option maxHeartbeats 6400000
/-- A state's row. -/
structure IsSt (v : List Int) : Prop where
  l : v.length = 24
  b : ∀ x ∈ v, 0 ≤ x ∧ x < 18446744073709551616
theorem rowU_inj : ∀ {v u : List Int}, rowU v = rowU u → v = u
  | [], [], _ => rfl
  | [], _ :: _, h => by cases h
  | _ :: _, [], h => by cases h
  | x :: v, y :: u, h => by
    injection h with h1 h2
    injection h1 with _ h1
    rw [h1, rowU_inj h2]
/-- A set of states in the map's block b. -/
def SetM (w : World) (b : Nat) (V : List (List Int)) : Prop :=
  ∃ D : DataW Unit, w.ownsMap Tryz.prog 179 unitElem b V.length D ∧ ∀ v kl, IsSt v → keyOf Tryz.prog 179 (.agg (rowU v).toArray) = some kl → (Maps.has D kl = true ↔ v ∈ V)
theorem set_look {w : World} {b : Nat} {V : List (List Int)} (h : SetM w b V) (v : List Int) (hv : IsSt v) :
    (Instr.lookup 126 (.map (some b)) (.agg (rowU v).toArray) true).run Tryz.prog w = .ok (.tuple #[.agg #[], .bool (decide (v ∈ V))]) w := by
  obtain ⟨D, ho, hm⟩ := h
  obtain ⟨kl, hk⟩ := keySt v hv.l hv.b
  obtain ⟨z, ps, e, hz⟩ := ho.look_ok keyedSt Tryz.underlying126 (z := .agg #[]) (by kernel_rfl) unitElem_mk hk
  obtain ⟨rfl, _⟩ := unitElem_inv hz
  rw [e]
  have : Maps.has D kl = decide (v ∈ V) := by
    have := hm v kl hv hk
    by_cases hv' : v ∈ V
    · rw [decide_eq_true hv']; exact this.2 hv'
    · rw [decide_eq_false hv']
      cases h : Maps.has D kl
      · rfl
      · exact absurd (this.1 h) hv'
  rw [this]
theorem turned_keeps {w w' : World} {b : Nat} (h : w.mapTurned w' b) : Keeps (fun x => x = b) w w' := by
  obtain ⟨es, clock, es', clock', hb, rfl⟩ := h
  refine ⟨rfl, rfl, rfl, by simp [ChangeMaps.setBlock], fun x hx hn => ?_⟩
  simp [ChangeMaps.setBlock, Ne.symm hn]
theorem set_put {w : World} {b : Nat} {V : List (List Int)} (h : SetM w b V) (v : List Int) (hv : IsSt v) (hn : V.length < maxLen) :
    ∃ w', (Instr.mapUpdate 126 (.map (some b)) (.agg (rowU v).toArray) (.agg #[])).run Tryz.prog w = .ok () w' ∧ SetM w' b (V ++ [v]) ∧ Keeps (fun x => x = b) w w' := by
  obtain ⟨D, ho, hm⟩ := h
  obtain ⟨kl, hk⟩ := keySt v hv.l hv.b
  obtain ⟨w', e, ho', ht⟩ := ho.store keyedSt Tryz.underlying126 hn hk unitElem_mk
  refine ⟨w', e, ⟨_, by rw [List.length_append, List.length_singleton]; exact ho', fun u kl' hu hk' => ?_⟩, turned_keeps ht⟩
  by_cases hc : kl' = kl
  · subst hc
    have e2 := keyedSt.inj hk' hk
    injection e2 with e2
    have e3 : rowU u = rowU v := by simpa using e2
    rw [rowU_inj e3]
    exact ⟨fun _ => by simp, fun _ => Maps.has_put_same ho.isMap (keyedSt.key hk) _⟩
  · rw [Maps.has_put_other hc]
    have hne : u ≠ v := fun e => hc (by rw [e, hk] at hk'; injection hk' with hk'; exact hk'.symm)
    rw [hm u kl' hu hk', List.mem_append, List.mem_singleton]
    exact ⟨.inl, fun h => h.elim id (fun e => absurd e hne)⟩
end Go.Proofs.YtdpebhdjcgiboaaGreat

namespace Go.Proofs.YtdpebhdjcgiboaaGreat
open Go.ChangeShapes Go.WideShapes Go.ChangeAt Go.RowKit Go.MuLone Go.RwLone
set_option linter.unusedVariables false
set_option maxRecDepth 100000
set_option maxHeartbeats 6400000
/-- Words, registers, places within their bounds. -/
structure Fit (wd : Nat) (s : Ls) : Prop where
  w : ∀ i, i < wd → 0 ≤ s.wo i ∧ s.wo i < 18446744073709551616
  r : ∀ i r, 0 ≤ s.rg i r ∧ s.rg i r < 18446744073709551616
  p : ∀ i, s.pl i ≤ 1000
theorem exP_r {wo rg : Nat → Int} {x : I8} {wd : Nat} (hs : snd wd x) (h : ∀ i, i < wd → 0 ≤ wo i ∧ wo i < 18446744073709551616) (hr : ∀ r, 0 ≤ rg r ∧ rg r < 18446744073709551616) : ∀ r, 0 ≤ (exP wo rg x).2.1 r ∧ (exP wo rg x).2.1 r < 18446744073709551616 := by
  intro r
  have hu : ∀ (c : Nat) (v : Int), (0 ≤ v ∧ v < 18446744073709551616) → 0 ≤ upd rg c v r ∧ upd rg c v r < 18446744073709551616 := fun c v hv => by
    by_cases e : r = c
    · subst e; rw [upd_same]; exact hv
    · rw [upd_other _ _ e]; exact hr r
  unfold exP
  rcases hs with ⟨e, hc, h4⟩ | ⟨e, hc, _⟩ | ⟨e, hc, h4, _⟩ | ⟨e, hc, h4, _⟩ | ⟨e, h4, _⟩
  · rw [if_pos e]
    exact hu _ _ (h _ (by omega))
  · rw [if_neg (by omega), if_pos e]
    exact hr r
  · rw [if_neg (by omega), if_neg (by omega), if_pos e]
    split
    · exact hu _ _ (by omega)
    · exact hu _ _ (by omega)
  · rw [if_neg (by omega), if_neg (by omega), if_neg (by omega), if_pos e]
    exact hu _ _ (h _ (by omega))
  · rw [if_neg (by omega), if_neg (by omega), if_neg (by omega), if_neg (by omega)]
    split <;> exact hr r
theorem stI_fit {ins : Nat → List I8} {wd m : Nat} {s : Ls} (h : Fit wd s) (hs : ∀ x ∈ ins m, snd wd x ∧ immOk x) (hl : (ins m).length ≤ 1000) : Fit wd (stI ins s m) := by
  by_cases hp : s.pl m < (ins m).length
  · unfold stI
    rw [tsP_in hp]
    have hx := hs _ (List.getElem_mem hp)
    refine ⟨exP_b hx.2 h.w, fun i r => ?_, fun i => ?_⟩
    · dsimp only
      by_cases e : i = m
      · subst e; rw [upd_same]; exact exP_r hx.1 h.w (h.r i) r
      · rw [upd_other _ _ e]; exact h.r i r
    · dsimp only
      by_cases e : i = m
      · subst e; rw [upd_same]; omega
      · rw [upd_other _ _ e]; exact h.p i
  · rw [stI_done hp]; exact h
/-- A state that the program can tell. -/
def Gs (wd n : Nat) (v : List Int) : Prop := ∃ s, Can wd n s ∧ Fit wd s ∧ v = encS s
theorem enc_st {wd n : Nat} {s : Ls} (h : Can wd n s) (f : Fit wd s) : IsSt (encS s) := by
  refine ⟨encS_len s, fun x hx => ?_⟩
  unfold encS at hx
  obtain ⟨k, hk, rfl⟩ := List.mem_map.1 hx
  split
  · by_cases e : k < wd
    · exact f.w k e
    · rw [h.w k (by omega)]; omega
  · split
    · exact f.r _ _
    · have := f.p (k - 20)
      omega
theorem Gs.st {wd n : Nat} {v : List Int} (h : Gs wd n v) : IsSt v := by
  obtain ⟨s, c, f, rfl⟩ := h
  exact enc_st c f
theorem Gs.dec {wd n : Nat} {v : List Int} (h : Gs wd n v) (h1 : wd ≤ 4) (h2 : n ≤ 4) : Can wd n (decS v) ∧ Fit wd (decS v) ∧ encS (decS v) = v := by
  obtain ⟨s, c, f, rfl⟩ := h
  rw [dec_enc c h1 h2]
  exact ⟨c, f, rfl⟩
/-- A load of a whole row, taken in a drawn region. -/
theorem rgL (i : Nat) {P : Program} {md : Region.Mode} {ops : Array Oper} {Q : Exit → Act → World → Prop} {S : World → Prop} {o : Oper} {r : List Oper} {fuel : Nat} {listed : Array Bool} {a a' : Act} {w : World}
    (ty : TypeId) (x : Operand) (b off : Nat) (cs : List Value) (d : TypeDesc)
    (he : ops.toList.drop i = o :: r := by rfl)
    (hc : (Region.noSelect ops && Region.free md ops listed i && (Region.ready md ops listed).contains i) = true := by kernel_rfl)
    (hQ : ∀ c a w, Q (.panic c) (a.put o.dst (.agg cs.toArray)) w → Q (.panic c) a w := by exact fun _ _ _ h => h)
    (hw : Region.wanted o (yielded ops a.tmps) = true := by rfl)
    (hS : S w := by assumption)
    (ho : o.op = .load ty x := by rfl)
    (hx : a.eval x = .pointer (some ⟨b, off, none⟩) := by rfl)
    (hR : ∀ w, S w → w.rangeAt b off cs)
    (hu : P.underlying ty = some d) (hd : d.isRow = true := by rfl) (hi : (P.info? ty).map (·.size) = some cs.length)
    (ha : a.put o.dst (.agg cs.toArray) = a' := by (try simp only [Act.put, List.setIfInBounds_toArray, List.set_cons_zero, List.set_cons_succ]); rfl)
    (h : wpAnyH P md ops Q S fuel (listed.setIfInBounds i true) a' w) : wpAnyH P md ops Q S (fuel + 1) listed a w := by
  subst ha
  simp only [Bool.and_eq_true] at hc
  exact wpAnyH_take (rgO he) hc.1.1 hc.1.2 hc.2 hQ (yieldsIf_load_mid hw ty x ho b off hx cs d hR hu hd hi) hS h
end Go.Proofs.YtdpebhdjcgiboaaGreat

namespace Go.Proofs.YtdpebhdjcgiboaaGreat
open Go.ChangeShapes Go.WideShapes Go.ChangeAt Go.RowKit Go.MuLone Go.RwLone
set_option linter.unusedVariables false
set_option maxRecDepth 100000
set_option maxHeartbeats 6400000
theorem fold_set : ∀ (R : List Value) (k : Nat) (zc : Array Value), k + R.length ≤ zc.size → (R.zipIdx k).foldl (fun cs x => cs.setIfInBounds (0 + x.2) x.1) zc = (zc.toList.take k ++ R ++ zc.toList.drop (k + R.length)).toArray
  | [], k, zc, h => by simp
  | c :: R, k, zc, h => by
    rw [List.length_cons] at h
    rw [List.zipIdx_cons, List.foldl_cons, fold_set R (k + 1) _ (by simp; omega)]
    congr 1
    have e1 : (zc.setIfInBounds (0 + k) c).toList = zc.toList.take k ++ c :: zc.toList.drop (k + 1) := by
      rw [Nat.zero_add, Array.toList_setIfInBounds, List.set_eq_take_append_cons_drop, if_pos (by simp; omega)]
    have hl : (zc.toList.take k).length = k := by simp; omega
    have key : ∀ (A D : List Value), A.length = k → (A ++ c :: D).take (k + 1) ++ R ++ (A ++ c :: D).drop (k + 1 + R.length) = A ++ c :: R ++ D.drop R.length := fun A D hA => by
      subst hA
      have e2 : A ++ c :: D = (A ++ [c]) ++ D := by simp
      rw [e2, show A.length + 1 = (A ++ [c]).length by simp, List.take_left, List.drop_append, List.drop_of_length_le (by omega), Nat.add_sub_cancel_left]
      simp
    rw [e1, key _ _ hl, List.drop_drop, show k + 1 + R.length = k + (R.length + 1) by omega, List.length_cons]
theorem fill_row (n : Nat) (zc : Array Value) (R : List Value) (hz : zc.size = n) (h : R.length = n) : Instr.fill (fun i => some (i * n, n)) zc [(0, .agg R.toArray)] = some R.toArray := by
  unfold Instr.fill
  have hc : (Value.agg R.toArray).cells = R.toArray := rfl
  simp only [Nat.zero_mul, hc, List.size_toArray, h, hz]
  rw [if_neg (by simp)]
  unfold Instr.fill
  congr 1
  have := fold_set R 0 zc (by omega)
  rw [← Array.foldl_toList]
  simp only [Array.toList_zipIdx]
  refine this.trans ?_
  rw [List.take_zero, List.nil_append, List.drop_of_length_le (by simp; omega), List.append_nil]
theorem fill_visit0 (pl : Nat → Option (Nat × Nat)) (zc : Array Value) (row : List Value) (rest : List (Nat × Value)) (p0 : pl 0 = some (0, 24)) (hz : zc.size = 26) (hr : row.length = 24) : Instr.fill pl zc ((0, .agg row.toArray) :: rest) = Instr.fill pl (row ++ zc.toList.drop 24).toArray rest := by
  conv => lhs; unfold Instr.fill
  have hc : (Value.agg row.toArray).cells = row.toArray := rfl
  simp only [p0, hc, List.size_toArray, hr, hz]
  rw [if_neg (by simp)]
  congr 1
  have := fold_set row 0 zc (by omega)
  rw [← Array.foldl_toList]
  simp only [Array.toList_zipIdx]
  refine this.trans ?_
  rw [List.take_zero, List.nil_append, hr]
theorem fill_one (pl : Nat → Option (Nat × Nat)) (A D : List Value) (x c v : Value) (i n : Nat) (rest : List (Nat × Value)) (p : pl i = some (n, 1)) (hA : A.length = n) (hv : v.cells = #[v]) : Instr.fill pl (A ++ x :: D).toArray ((i, v) :: rest) = Instr.fill pl (A ++ v :: D).toArray rest := by
  conv => lhs; unfold Instr.fill
  simp only [p, hv]
  rw [if_neg (by simp; omega)]
  congr 1
  subst hA
  simp
theorem fill_visit (pl : Nat → Option (Nat × Nat)) (zc : Array Value) (row : List Value) (f h : Value) (p0 : pl 0 = some (0, 24)) (p1 : pl 1 = some (24, 1)) (p2 : pl 2 = some (25, 1)) (hz : zc.size = 26) (hr : row.length = 24) (hf : f.cells = #[f]) (hh : h.cells = #[h]) : Instr.fill pl zc [(0, .agg row.toArray), (1, f), (2, h)] = some (row ++ [f, h]).toArray := by
  rw [fill_visit0 pl zc row _ p0 hz hr]
  obtain ⟨x, y, e⟩ : ∃ x y, zc.toList.drop 24 = [x, y] := by
    have hl : (zc.toList.drop 24).length = 2 := by simp; omega
    match zc.toList.drop 24, hl with
    | [x, y], _ => exact ⟨x, y, rfl⟩
  rw [e, fill_one pl row [y] x x f 1 24 _ p1 hr hf]
  have := fill_one pl (row ++ [f]) [] y y h 2 25 [] p2 (by simp [hr]) hh
  rw [List.append_assoc, List.append_assoc] at this
  refine this.trans ?_
  rfl
theorem built_of {P : Program} {t : TypeId} {fields : Array Field} {z : Value} {places : List (Nat × Nat)} (hi : (P.info? t).map (·.zero) = some (some z)) (hu : P.underlying t = some (.struct fields)) (hp : fields.toList.mapM (fun f => (P.info? f.type).map fun i => (f.offset, i.size)) = some places) (parts : List (Nat × Value)) : P.built t parts = Instr.fill (places.toArray[·]?) z.cells parts := by
  unfold Program.built
  cases hit : P.info? t with
  | none => rw [hit] at hi; cases hi
  | some it =>
    rw [hit] at hi
    have hz : it.zero = some z := by simpa using hi
    simp only [hu, hz, hp]
theorem wp_build_one {P : Program} {o : Oper} {a : Act} {w : World} {K : Act → World → Prop} {Q : Exit → Act → World → Prop} (t e : TypeId) (x : Operand) (ho : o.op = .buildSlice t 1 #[(0, x)]) (R : List Value) (n : Nat) (ie : TypeInfo) (z : Value) (hu : P.underlying t = some (.slice e)) (hie : P.info? e = some ie) (hz : ie.zero = some z) (hsz : ie.size = n) (h24 : ¬ 1 * n > 2 ^ 24) (hpos : ¬ 1 * n = 0) (hR : R.length = n) (hx : a.eval x = .agg R.toArray)
    (h : K (a.put o.dst (.slice (some ⟨w.heap.size, 0, none⟩) 1 1)) (w.alloc (.cells R.toArray e))) : o.wp P a w K Q := by
  subst hsz
  refine wp_buildSlice t e 1 #[(0, x)] ho R.toArray ie z hu hie hz h24 hpos ?_ h
  simp only [List.map_toArray, List.map_cons, List.map_nil, hx]
  exact fill_row _ _ R (by simp) hR
/-- append: in place, or in a block of its own that leaves the old one as it was. -/
theorem run_app_st {P : Program} (w : World) (t ty : TypeId) (base : Nat) (e : TypeId) (i : TypeInfo) (z : Value) (size bytes : Nat) (ht : P.underlying t = some (.slice e)) (hi : P.info? e = some i) (hz : i.zero = some z) (hsize : i.size = size) (hby : i.bytes = bytes) (hzs : z.cells.size = size) (hsz : 0 < size)
    (v : Value) (n : Nat) (xs : List Value) (hown : w.ownsRow base e size v n xs)
    (ad : Addr) (m c : Nat) (news : List Value) (hl : news.length = m * size) (hnews : ∀ j u, news[j]? = some u → w.cell? (ad.add j) = some u) (h1 : ∀ u ∈ news, u.oneCell' = true)
    (hm : 0 < m) (h63 : n + m ≤ maxLen) (hbytes : (n + m) * bytes ≤ 140737488355328) (hbase : base ≤ w.heap.size) :
    ∃ g cap w', (Builtin.append_ #[t, t] ty #[v, .slice (some ad) m c]).run P w = .ok (.slice (some ⟨g, 0, none⟩) (n + m) cap) w' ∧ w'.ownsRow base e size (.slice (some ⟨g, 0, none⟩) (n + m) cap) (n + m) (xs ++ news) ∧ ((v.ownBlock = some g ∧ w.grownBy w' v.ownBlock) ∨ (g = w.heap.size ∧ w.grownBy w' none)) ∧ g < w'.heap.size := by
  obtain ⟨g', cap', w', hr, h2, h3, h4, h5⟩ := run_append_lies (P := P) w t ty base e i z size bytes ht hi hz hsize hby hzs hsz v n xs hown ad m c news hl hnews h1 hm h63 hbytes hbase w.heap.size rfl
  refine ⟨g', cap', w', hr, h2, ?_, h5⟩
  subst hsize hby
  rcases h4 with e4 | e4
  · exact .inl ⟨e4, h3⟩
  · right
    refine ⟨e4, ?_⟩
    rcases hown.2 with ⟨rfl, rfl⟩ | ⟨g, cap, cur, rfl, hbg, hg, hnc, hcm, hcs, htake⟩
    · exact h3
    · by_cases hroom : n + m ≤ cap
      · have hfit : n * i.size + news.length ≤ cur.size := by rw [hl, hcs, ← Nat.add_mul]; exact Nat.mul_le_mul_right _ hroom
        have hr2 := run_append_room (P := P) w t ty e i ht hi g n cap cur hg ad m c news hl hnews h1 hroom hfit
        rw [hr] at hr2
        injection hr2 with e1 e2
        injection e1 with e1 _ _
        injection e1 with e1
        injection e1 with e1 _ _
        have := (Array.getElem?_eq_some_iff.1 hg).1
        omega
      · have holds : ∀ j u, xs[j]? = some u → w.cell? ((⟨g, 0, none⟩ : Addr).add j) = some u := hown.cells (g := g) rfl
        have hsmall : n + m ≤ 9223372036854775807 := by simp only [maxLen] at h63; omega
        have hr2 := run_append_grow (P := P) w t ty e i z ht hi hz ⟨g, 0, none⟩ n cap xs hown.1 holds ad m c news hl hnews (by omega) (by omega) (growslice_fits (by omega) hbytes)
        rw [hr] at hr2
        injection hr2 with e1 e2
        rw [e2]
        exact ⟨rfl, rfl, rfl, by simp, fun k hk _ => Below.heap_alloc w.drew _ k hk⟩
theorem app_st_wp {α : Type} {cs : α → List Value} {wr : World} {o : Oper} {a : Act} {K : Act → World → Prop} {Q : Exit → Act → World → Prop} (s x : Operand) (t e : TypeId)
    (ho : o.op = .call { callee := .builtin .append, args := #[s, x], argTypes := #[t, t] })
    {z : Value} {n bytes : Nat} (hu : Tryz.prog.underlying t = some (.slice e)) (hinfo : (Tryz.prog.info? e).map (fun i => (i.zero, i.size, i.bytes)) = some (some z, n, bytes)) (hzs : z.cells.size = n) (hn0 : 0 < n) (hn : ∀ y, (cs y).length = n)
    (v : Value) (xs : List α) (c : α) (hown : OwG cs e n wr 0 v xs) (hs : a.eval s = v) (g : Nat) (hg : g = wr.heap.size) (hx : a.eval x = .slice (some ⟨g, 0, none⟩) 1 1) (h1 : ∀ u ∈ cs c, u.oneCell' = true)
    (ar : Array Value) (har : ar = (cs c).toArray)
    (hm : xs.length < maxLen) (hbytes : (xs.length + 1) * bytes ≤ 140737488355328)
    (h : ∀ b cap w', OwG cs e n w' 0 (.slice (some ⟨b, 0, none⟩) (xs.length + 1) cap) (xs ++ [c]) → ((v.ownBlock = some b ∧ Keeps (fun k => v.ownBlock = some k) wr w') ∨ (wr.heap.size ≤ b ∧ Keeps (fun _ => False) wr w')) → b < w'.heap.size → K (a.put o.dst (.slice (some ⟨b, 0, none⟩) (xs.length + 1) cap)) w') :
    o.wp Tryz.prog a (wr.alloc (.cells ar e)) K Q := by
  subst hg har
  obtain ⟨i0, hi, hz0, hz1, hz2⟩ := info_parts hinfo
  obtain ⟨b, cap, w', hr, h2, h3, h4⟩ := run_app_st (P := Tryz.prog) (wr.alloc (.cells (cs c).toArray e)) t o.type 0 e i0 z n bytes hu hi hz0 hz1 hz2 hzs hn0 v xs.length _ (World.ownsRow.alloc hown _)
    ⟨wr.heap.size, 0, none⟩ 1 1 (cs c) (by rw [hn]; omega) (by
      intro j u hj
      rw [addr_add, Nat.zero_add]
      unfold World.cell?
      rw [heap_alloc_last _ _ _ rfl]
      simpa using hj) h1 (by omega) (by omega) hbytes (Nat.zero_le _)
  unfold Oper.wp execOp
  simp only [ho, resolve, invoke, builtin, Sem.run_bind, Sem.run_pure, Result.andThen_ok, List.map_toArray, List.map_cons, List.map_nil, hs, hx, hr]
  refine h b cap w' ?_ ?_ h4
  · have : (xs ++ [c]).length = xs.length + 1 := by simp
    unfold OwG; rw [this, List.flatMap_append, show [c].flatMap cs = cs c from by simp]; exact h2
  · rcases h3 with ⟨e1, k⟩ | ⟨e1, k⟩
    · exact .inl ⟨e1, k.os, k.tape, k.output, by have := k.size; rw [szAl] at this; omega, fun k' hk hne => (k.block k' (by rw [szAl]; omega) (fun e => hne e.symm)).trans (Below.heap_alloc _ _ k' hk)⟩
    · exact .inr ⟨by rw [e1, szAl]; omega, k.os, k.tape, k.output, by have := k.size; rw [szAl] at this; omega, fun k' hk hne => (k.block k' (by rw [szAl]; omega) (by simp)).trans (Below.heap_alloc _ _ k' hk)⟩
theorem app_st {α : Type} {cs : α → List Value} {wr : World} {ops : Array Oper} {rest : List Oper} {o : Oper} {a : Act} {Q : Exit → Act → World → Prop} (hgd : o.guard = none) (s x : Operand) (t e : TypeId)
    (ho : o.op = .call { callee := .builtin .append, args := #[s, x], argTypes := #[t, t] })
    {z : Value} {n bytes : Nat} (hu : Tryz.prog.underlying t = some (.slice e)) (hinfo : (Tryz.prog.info? e).map (fun i => (i.zero, i.size, i.bytes)) = some (some z, n, bytes)) (hzs : z.cells.size = n) (hn0 : 0 < n) (hn : ∀ y, (cs y).length = n)
    (v : Value) (xs : List α) (c : α) (hown : OwG cs e n wr 0 v xs) (hs : a.eval s = v) (g : Nat) (hg : g = wr.heap.size) (hx : a.eval x = .slice (some ⟨g, 0, none⟩) 1 1) (h1 : ∀ u ∈ cs c, u.oneCell' = true)
    (ar : Array Value) (har : ar = (cs c).toArray)
    (hm : xs.length < maxLen) (hbytes : (xs.length + 1) * bytes ≤ 140737488355328)
    (h : ∀ b cap w', OwG cs e n w' 0 (.slice (some ⟨b, 0, none⟩) (xs.length + 1) cap) (xs ++ [c]) → ((v.ownBlock = some b ∧ Keeps (fun k => v.ownBlock = some k) wr w') ∨ (wr.heap.size ≤ b ∧ Keeps (fun _ => False) wr w')) → b < w'.heap.size → wpList Tryz.prog ops Q rest (a.put o.dst (.slice (some ⟨b, 0, none⟩) (xs.length + 1) cap)) w') :
    wpList Tryz.prog ops Q (o :: rest) a (wr.alloc (.cells ar e)) :=
  wpList_plain hgd fun _ hK => app_st_wp s x t e ho hu hinfo hzs hn0 hn v xs c hown hs g hg hx h1 ar har hm hbytes (fun b cap w' p1 p2 p3 => hK _ _ (h b cap w' p1 p2 p3))
/-- A row of 24 words, whatever it was. -/
def fixS (v : List Int) : List Int := (List.range 24).map (fun k => v.getD k 0)
theorem fix_id {v : List Int} (h : v.length = 24) : fixS v = v := by
  unfold fixS
  apply List.ext_getElem?
  intro k
  by_cases hk : k < 24
  · rw [List.getElem?_map, List.getElem?_range hk, Option.map_some, List.getD_eq_getElem?_getD, List.getElem?_eq_getElem (by omega)]
    rfl
  · rw [List.getElem?_eq_none (by simp; omega), List.getElem?_eq_none (by omega)]
/-- A visit's cells. -/
def viC (v : Vi (List Int)) : List Value := rowU (fixS v.1) ++ [.int .i64 (v.2.1 : Nat), .int .i64 (v.2.2 : Nat)]
def enC (k : Nat) : List Value := [.int .i64 (k : Nat)]
theorem viC_len (v : Vi (List Int)) : (viC v).length = 26 := by simp [viC, rowU, fixS]
theorem viC_one (v : Vi (List Int)) : ∀ u ∈ viC v, u.oneCell' = true := by
  intro u hu
  rcases List.mem_append.1 hu with e | e
  · exact rowU_one _ u e
  · simp at e
    rcases e with rfl | rfl <;> rfl
theorem viC_row {v : Vi (List Int)} (h : v.1.length = 24) : viC v = rowU v.1 ++ [.int .i64 (v.2.1 : Nat), .int .i64 (v.2.2 : Nat)] := by unfold viC; rw [fix_id h]
theorem SetM.keeps {w w' : World} {b : Nat} {V : List (List Int)} {D : Nat → Prop} (h : SetM w b V) (k : Keeps D w w') (hn : ¬ D b) : SetM w' b V := by
  obtain ⟨M, ⟨es, clock, hb, F, hs, hD⟩, hm⟩ := h
  exact ⟨M, ⟨es, clock, (k.block b (Array.getElem?_eq_some_iff.1 hb).1 hn).trans hb, F, hs, hD⟩, hm⟩
theorem SetM.blk {w : World} {b : Nat} {V : List (List Int)} (h : SetM w b V) : ∃ es clock, w.heap[b]? = some (.map es clock) := by
  obtain ⟨M, ⟨es, clock, hb, F, hs, hD⟩, hm⟩ := h
  exact ⟨es, clock, hb⟩
theorem SetM.lt {w : World} {b : Nat} {V : List (List Int)} (h : SetM w b V) : b < w.heap.size := by
  obtain ⟨es, clock, hb⟩ := h.blk
  exact (Array.getElem?_eq_some_iff.1 hb).1
theorem SetM.made (w : World) : SetM (w.alloc (.map #[] 0)) w.heap.size [] :=
  ⟨.map [], World.ownsMap_made w Tryz.prog 179 unitElem, fun v kl _ _ => by constructor <;> intro h <;> cases h⟩
abbrev wkA (bb : Nat) (vv : Value) (mb : Nat) (ev : Value) : Array Value := #[.pointer (some ⟨bb, 0, none⟩), vv, .map (some mb), ev]
/-- An exploration: the visits, their states, the ends. -/
structure Wlk (w : World) (kb bb mb : Nat) (vv ev : Value) (V : List (Vi (List Int))) (E : List Nat) : Prop where
  k : w.heap[kb]? = some (.cells (wkA bb vv mb ev) 128)
  v : OwG viC 182 26 w 0 vv V
  s : SetM w mb (V.map (·.1))
  e : OwG enC 3 1 w 0 ev E
/-- What an exploration lies in. -/
def fK (kb mb : Nat) (vv ev : Value) (y : Nat) : Prop := y = kb ∨ y = mb ∨ vv.ownBlock = some y ∨ ev.ownBlock = some y
theorem Wlk.keeps {w w' : World} {kb bb mb : Nat} {vv ev : Value} {V : List (Vi (List Int))} {E : List Nat} {D : Nat → Prop} (h : Wlk w kb bb mb vv ev V E) (k : Keeps D w w') (hn : ∀ y, D y → ¬ fK kb mb vv ev y) : Wlk w' kb bb mb vv ev V E :=
  ⟨(k.block kb (Array.getElem?_eq_some_iff.1 h.k).1 (fun e => hn _ e (.inl rfl))).trans h.k, owK h.v k (fun g hg e => hn g e (.inr (.inr (.inl hg)))), h.s.keeps k (fun e => hn _ e (.inr (.inl rfl))), owK h.e k (fun g hg e => hn g e (.inr (.inr (.inr hg))))⟩
theorem Wlk.lt {w : World} {kb bb mb : Nat} {vv ev : Value} {V : List (Vi (List Int))} {E : List Nat} (h : Wlk w kb bb mb vv ev V E) {y : Nat} (hy : fK kb mb vv ev y) : y < w.heap.size := by
  rcases hy with rfl | rfl | e | e
  · exact (Array.getElem?_eq_some_iff.1 h.k).1
  · exact h.s.lt
  · exact own_lt h.v e
  · exact own_lt h.e e
theorem Wlk.km {w : World} {kb bb mb : Nat} {vv ev : Value} {V : List (Vi (List Int))} {E : List Nat} (h : Wlk w kb bb mb vv ev V E) : kb ≠ mb := by
  rintro rfl
  obtain ⟨es, c, e⟩ := h.s.blk
  rw [h.k] at e
  cases e
theorem Wlk.vd {w : World} {kb bb mb : Nat} {vv ev : Value} {V : List (Vi (List Int))} {E : List Nat} (h : Wlk w kb bb mb vv ev V E) {g : Nat} (hg : vv.ownBlock = some g) : g ≠ kb ∧ g ≠ mb ∧ ev.ownBlock ≠ some g := by
  obtain ⟨cur, e⟩ := blk h.v hg
  refine ⟨?_, ?_, ?_⟩
  · rintro rfl
    rw [h.k] at e
    injection e with e
    injection e with e1 e2 e3
    exact absurd e2 (by decide)
  · rintro rfl
    obtain ⟨es, c, e'⟩ := h.s.blk
    rw [e'] at e
    cases e
  · intro hg'
    obtain ⟨cur', e'⟩ := blk h.e hg'
    rw [e'] at e
    injection e with e
    injection e with e1 e2 e3
    exact absurd e2 (by decide)
theorem Wlk.ed {w : World} {kb bb mb : Nat} {vv ev : Value} {V : List (Vi (List Int))} {E : List Nat} (h : Wlk w kb bb mb vv ev V E) {g : Nat} (hg : ev.ownBlock = some g) : g ≠ kb ∧ g ≠ mb ∧ vv.ownBlock ≠ some g := by
  obtain ⟨cur, e⟩ := blk h.e hg
  refine ⟨?_, ?_, fun e' => (h.vd e').2.2 hg⟩
  · rintro rfl
    rw [h.k] at e
    injection e with e
    injection e with e1 e2 e3
    exact absurd e2 (by decide)
  · rintro rfl
    obtain ⟨es, c, e'⟩ := h.s.blk
    rw [e'] at e
    cases e
/-- The visits' slot is written, the ends'. -/
theorem wk_setV {w : World} {kb bb mb : Nat} {vv vv' ev : Value} {V : List (Vi (List Int))} {E : List Nat} (hk : w.heap[kb]? = some (.cells (wkA bb vv mb ev) 128)) (ho : OwG viC 182 26 w 0 vv' V) (hs : SetM w mb (V.map (·.1))) (he : OwG enC 3 1 w 0 ev E) : Wlk (w.setCell ⟨kb, 1, none⟩ vv') kb bb mb vv' ev V E := by
  have kk : Keeps (fun y => y = kb) w (w.setCell ⟨kb, 1, none⟩ vv') := Keeps.setCell (B := fun y => y = kb) (Keeps.refl _ _) rfl _
  refine ⟨heapSet hk (j := 1) vv', owK ho kk ?_, hs.keeps kk ?_, owK he kk ?_⟩
  · rintro g hg rfl
    obtain ⟨cur, e⟩ := blk ho hg
    rw [hk] at e
    injection e with e
    injection e with e1 e2 e3
    exact absurd e2 (by decide)
  · rintro rfl
    obtain ⟨es, c, e⟩ := hs.blk
    rw [hk] at e
    cases e
  · rintro g hg rfl
    obtain ⟨cur, e⟩ := blk he hg
    rw [hk] at e
    injection e with e
    injection e with e1 e2 e3
    exact absurd e2 (by decide)
theorem wk_setE {w : World} {kb bb mb : Nat} {vv ev ev' : Value} {V : List (Vi (List Int))} {E : List Nat} (hk : w.heap[kb]? = some (.cells (wkA bb vv mb ev) 128)) (ho : OwG viC 182 26 w 0 vv V) (hs : SetM w mb (V.map (·.1))) (he : OwG enC 3 1 w 0 ev' E) : Wlk (w.setCell ⟨kb, 3, none⟩ ev') kb bb mb vv ev' V E := by
  have kk : Keeps (fun y => y = kb) w (w.setCell ⟨kb, 3, none⟩ ev') := Keeps.setCell (B := fun y => y = kb) (Keeps.refl _ _) rfl _
  refine ⟨heapSet hk (j := 3) ev', owK ho kk ?_, hs.keeps kk ?_, owK he kk ?_⟩
  · rintro g hg rfl
    obtain ⟨cur, e⟩ := blk ho hg
    rw [hk] at e
    injection e with e
    injection e with e1 e2 e3
    exact absurd e2 (by decide)
  · rintro rfl
    obtain ⟨es, c, e⟩ := hs.blk
    rw [hk] at e
    cases e
  · rintro g hg rfl
    obtain ⟨cur, e⟩ := blk he hg
    rw [hk] at e
    injection e with e
    injection e with e1 e2 e3
    exact absurd e2 (by decide)
theorem built_visit (row : List Value) (f h : Int) (hr : row.length = 24) : Tryz.prog.built 182 [(0, .agg row.toArray), (1, .int .i64 f), (2, .int .i64 h)] = some (row ++ [Value.int .i64 f, Value.int .i64 h]).toArray := by
  rw [built_of (places := [(0, 24), (24, 1), (25, 1)]) (z := .agg #[.int .u64 0, .int .u64 0, .int .u64 0, .int .u64 0, .int .u64 0, .int .u64 0, .int .u64 0, .int .u64 0, .int .u64 0, .int .u64 0, .int .u64 0, .int .u64 0, .int .u64 0, .int .u64 0, .int .u64 0, .int .u64 0, .int .u64 0, .int .u64 0, .int .u64 0, .int .u64 0, .int .u64 0, .int .u64 0, .int .u64 0, .int .u64 0, .int .i64 0, .int .i64 0]) (by kernel_rfl) Tryz.underlying182 (by kernel_rfl)]
  exact fill_visit _ _ row _ _ rfl rfl rfl rfl hr rfl rfl
theorem built_visit0 (row : List Value) (hr : row.length = 24) : Tryz.prog.built 182 [(0, .agg row.toArray)] = some (row ++ [Value.int .i64 0, Value.int .i64 0]).toArray := by
  rw [built_of (places := [(0, 24), (24, 1), (25, 1)]) (z := .agg #[.int .u64 0, .int .u64 0, .int .u64 0, .int .u64 0, .int .u64 0, .int .u64 0, .int .u64 0, .int .u64 0, .int .u64 0, .int .u64 0, .int .u64 0, .int .u64 0, .int .u64 0, .int .u64 0, .int .u64 0, .int .u64 0, .int .u64 0, .int .u64 0, .int .u64 0, .int .u64 0, .int .u64 0, .int .u64 0, .int .u64 0, .int .u64 0, .int .i64 0, .int .i64 0]) (by kernel_rfl) Tryz.underlying182 (by kernel_rfl)]
  rw [fill_visit0 _ _ row [] rfl rfl hr]
  rfl
theorem wpList_visit {ops : Array Oper} {rest : List Oper} {o : Oper} {a : Act} {w : World} {Q : Exit → Act → World → Prop} (hg : o.guard = none) (x y z : Operand) (ho : o.op = .build 182 #[(0, x), (1, y), (2, z)]) (row : List Value) (f h : Int) (hr : row.length = 24) (hx : a.eval x = .agg row.toArray) (hy : a.eval y = .int .i64 f) (hz : a.eval z = .int .i64 h)
    (k : wpList Tryz.prog ops Q rest (a.put o.dst (.agg (row ++ [Value.int .i64 f, Value.int .i64 h]).toArray)) w) : wpList Tryz.prog ops Q (o :: rest) a w := by
  refine wpList_plain hg fun _ hK => ?_
  unfold Oper.wp execOp
  simp only [ho, Sem.run_bind, List.map_toArray, List.map_cons, List.map_nil, hx, hy, hz, run_build w 182 #[(0, .agg row.toArray), (1, .int .i64 f), (2, .int .i64 h)] _ (built_visit row f h hr), Result.andThen_ok]
  exact hK _ _ k
theorem wpList_visit0 {ops : Array Oper} {rest : List Oper} {o : Oper} {a : Act} {w : World} {Q : Exit → Act → World → Prop} (hg : o.guard = none) (x : Operand) (ho : o.op = .build 182 #[(0, x)]) (row : List Value) (hr : row.length = 24) (hx : a.eval x = .agg row.toArray)
    (k : wpList Tryz.prog ops Q rest (a.put o.dst (.agg (row ++ [Value.int .i64 0, Value.int .i64 0]).toArray)) w) : wpList Tryz.prog ops Q (o :: rest) a w := by
  refine wpList_plain hg fun _ hK => ?_
  unfold Oper.wp execOp
  simp only [ho, Sem.run_bind, List.map_toArray, List.map_cons, List.map_nil, hx, run_build w 182 #[(0, .agg row.toArray)] _ (built_visit0 row hr), Result.andThen_ok]
  exact hK _ _ k
theorem infoVi : ∃ z, (Tryz.prog.info? 182).map (fun i => (i.zero, i.size, i.bytes)) = some (some z, 26, 208) ∧ z.cells.size = 26 := ⟨.agg #[.int .u64 0, .int .u64 0, .int .u64 0, .int .u64 0, .int .u64 0, .int .u64 0, .int .u64 0, .int .u64 0, .int .u64 0, .int .u64 0, .int .u64 0, .int .u64 0, .int .u64 0, .int .u64 0, .int .u64 0, .int .u64 0, .int .u64 0, .int .u64 0, .int .u64 0, .int .u64 0, .int .u64 0, .int .u64 0, .int .u64 0, .int .u64 0, .int .i64 0, .int .i64 0], by kernel_rfl, rfl⟩
theorem infoEn : (Tryz.prog.info? 3).map (fun i => (i.zero, i.size, i.bytes)) = some (some (.int .i64 0), 1, 8) := by kernel_rfl
end Go.Proofs.YtdpebhdjcgiboaaGreat
