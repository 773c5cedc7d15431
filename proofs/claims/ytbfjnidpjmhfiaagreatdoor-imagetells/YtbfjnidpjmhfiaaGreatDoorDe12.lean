import Derived.Test.YtbfjnidpjmhfiaaGreatDoorDe9
import Derived.Test.YtbfjnidpjmhfiaaGreatDoorDe5
import Derived.Defers
import Derived.Recover
import Derived.Laws.Pointers
import Derived.Test.YtbfjnidpjmhfiaaGreatDoorMfR
namespace Go.Proofs.YtbfjnidpjmhfiaaGreatDoor
set_option linter.unusedSimpArgs false
open Go.ChangeShapes Go.WideShapes Go.ChangeAt Go.RowKit
set_option linter.unusedVariables false
set_option maxRecDepth 100000
def mgDB : ByteArray := ⟨#[83, 84, 82, 65, 68, 69, 76, 49]⟩
/-- How DecodeDelta ends when it does not read a delta file. -/
def DoNo (b : ByteArray) (c : Int) : Prop := (opE b mgDB ≠ 0 ∧ c = opE b mgDB) ∨ (opE b mgDB = 0 ∧ c = 125 ∧ ∀ id gen ps, rdD (b.extract 0 (b.size - 4)) = some ((id, gen), ps) → ¬ mayD id gen ps)
/-- What a delta file is read as. -/
def DoYes (b : ByteArray) (id gen : Int) (ps : List ER) : Prop := opE b mgDB = 0 ∧ rdD (b.extract 0 (b.size - 4)) = some ((id, gen), ps) ∧ mayD id gen ps ∧ (∀ p ∈ ps, p.wf)
/-- A delta file is read, its erasures new; or the reading gives up. -/
def DoC (w : World) (b : ByteArray) (e : Ending) (w' : World) : Prop :=
  Below w.heap.size w w' ∧ ((∃ id gen ps v, DoYes b id gen ps ∧ e = .returned (.agg #[.int .i64 id, .int .u64 0, .int .u64 0, .slice none 0 0, .int .i64 gen, v]) ∧ ownE w' w.heap.size v ps) ∨ ∃ c, DoNo b c ∧ e = oops c)
theorem DoC.no {w w' : World} {b : ByteArray} {c : Int} (hb : Below w.heap.size w w') (h : DoNo b c) : DoC w b (oops c) w' := ⟨hb, .inr ⟨c, h, rfl⟩⟩
theorem DoNo.none {b : ByteArray} (h : opE b mgDB = 0) (hn : rdD (b.extract 0 (b.size - 4)) = none) : DoNo b 125 := .inr ⟨h, rfl, fun _ _ _ h2 => by rw [hn] at h2; cases h2⟩
theorem rdD_n1 {s : ByteArray} (h : rdU s 8 99999999 = none) : rdD s = none := by rw [rdD, h]; rfl
theorem rdD_n2 {s : ByteArray} {x1 : Int} {p1 : Nat} (h1 : rdU s 8 99999999 = some (x1, p1)) (h : rdU s p1 99999999 = none) : rdD s = none := by rw [rdD, h1]; simp only [Option.bind_some]; rw [h]; rfl
theorem rdD_n3 {s : ByteArray} {x1 x2 : Int} {p1 p2 : Nat} (h1 : rdU s 8 99999999 = some (x1, p1)) (h2 : rdU s p1 99999999 = some (x2, p2)) (h : rdU s p2 65536 = none) : rdD s = none := by rw [rdD, h1]; simp only [Option.bind_some]; rw [h2]; simp only [Option.bind_some]; rw [h]; rfl
theorem rdD_4 {s : ByteArray} {x1 x2 : Int} {n p1 p2 p3 : Nat} (h1 : rdU s 8 99999999 = some (x1, p1)) (h2 : rdU s p1 99999999 = some (x2, p2)) (h3 : rdU s p2 65536 = some ((n : Int), p3)) : rdD s = (restE s [] n p3 0).bind fun y => if y.2 = s.size then some ((x1, x2), y.1) else none := by
  rw [rdD, h1]; simp only [Option.bind_some]; rw [h2]; simp only [Option.bind_some]; rw [h3]; simp only [Option.bind_some, Int.toNat_natCast]
  unfold restE
  simp
theorem TookI.yesD {R : Nat} {s : ByteArray} {w w' : World} {k : IntKind} {x : Int} {q : Nat} {e : Ending} (h : TookI R s w k (some (x, q)) e w') : Fr R w w' ∧ e = .returned (.int k x) ∧ RdI w' R s q := by
  obtain ⟨hf, ⟨x', q', hxx, he, hr⟩ | ⟨hxx, _⟩⟩ := h
  · injection hxx with hxx
    injection hxx with ha hb
    subst ha hb
    exact ⟨hf, he, hr⟩
  · cases hxx
theorem TookI.noD {R : Nat} {s : ByteArray} {w w' : World} {k : IntKind} {e : Ending} (h : TookI R s w k none e w') : Fr R w w' ∧ e = oops 125 := by
  obtain ⟨hf, ⟨x', q', hxx, he, hr⟩ | ⟨_, he⟩⟩ := h
  · cases hxx
  · exact ⟨hf, he⟩
theorem app_er_wp {wr : World} {o : Oper} {a : Act} {K : Act → World → Prop} {Q : Exit → Act → World → Prop} (s x : Operand)
    (ho : o.op = .call { callee := .builtin .append, args := #[s, x], argTypes := #[24, 24] })
    (B : Nat) (v : Value) (vs : List ER) (c : ER) (hown : ownE wr B v vs) (hs : a.eval s = v) (g : Nat) (hg : g = wr.heap.size) (hx : a.eval x = .slice (some ⟨g, 0, none⟩) 1 1)
    (hlen : (vs.length + 1) * 32 ≤ 140737488355328) (hB : B ≤ wr.heap.size)
    (h : ∀ v' w', ownE w' B v' (vs ++ [c]) → Below B wr w' → K (a.put o.dst v') w') :
    o.wp Tryz.prog a (wr.alloc (.cells #[.int .u64 c.beg, .int .u64 c.fin, .string c.key] 33)) K Q := by
  subst hg
  obtain ⟨i0, hi, hz0, hz1, hz2⟩ := info_parts infoE
  refine wp_append_own _ s x 24 ho B 33 i0 _ 3 32 Tryz.underlying24 hi hz0 hz1 hz2 rfl (by decide) v vs.length _ hs (World.ownsRow.alloc hown _)
    ⟨wr.heap.size, 0, none⟩ 1 1 (cellE c) hx rfl ?_ ?_ (by unfold maxLen; omega) (by omega) (by simp; omega) ?_
  · intro j u hj
    match j, hj with
    | 0, hj => simp [cellE] at hj; subst hj; simp [Addr.add]
    | 1, hj => simp [cellE] at hj; subst hj; simp [Addr.add]
    | 2, hj => simp [cellE] at hj; subst hj; simp [Addr.add]
  · intro u hu; exact cellsE_one [c] u (by simpa [cellsE] using hu)
  · intro v' w' hown' hgrow _
    refine h v' w' ?_ ?_
    · have : (vs ++ [c]).length = vs.length + 1 := by simp
      unfold ownE; rw [this, cellsE_app, show cellsE [c] = cellE c from by simp [cellsE]]; exact hown'
    · exact ((Below.refl _ _).alloc hB _).grown hgrow (by simp; omega) (fun k hk => (World.ownsRow.lt hown k hk).1)
/-- What stands while a delta file is read. -/
structure DaS (w : World) (R g B : Nat) (s : ByteArray) (id gen : Int) (W : World) (p : Nat) (v : Value) (ps : List ER) : Prop where
  bel : Below w.heap.size w W
  z : Fp6 W w.heap.size (.int .i64 0) (.int .u64 0) (.int .u64 0) (.slice none 0 0) (.int .i64 0) (.slice none 0 0)
  rd : RdI W R s p
  hg : Fp6 W g (.int .i64 id) (.int .u64 0) (.int .u64 0) (.slice none 0 0) (.int .i64 gen) v
  own : ownE W B v ps
  r1 : w.heap.size < R
  r2 : w.heap.size < g
  n1 : R ≠ g
  b1 : R < B
  b2 : g < B
  b3 : B ≤ W.heap.size
theorem DaS.read {w : World} {R g B : Nat} {s : ByteArray} {id gen : Int} {W W' : World} {p q : Nat} {v : Value} {ps : List ER} (h : DaS w R g B s id gen W p v ps) (hf : Fr R W W') (hr : RdI W' R s q) : DaS w R g B s id gen W' q v ps :=
  ⟨h.bel.trans (hf.toBelow.mono (Nat.le_of_lt h.r1)), h.z.fr hf (by have := h.r1; omega), hr, h.hg.fr hf (Ne.symm h.n1), h.own.same (fun k hk hB => hf.rest k hk (by have := h.b1; omega)), h.r1, h.r2, h.n1, h.b1, h.b2, Nat.le_trans h.b3 hf.toBelow.size⟩
theorem DaS.app {w : World} {R g B : Nat} {s : ByteArray} {id gen : Int} {W W' : World} {p : Nat} {v v' : Value} {ps ps' : List ER} (h : DaS w R g B s id gen W p v ps) (ho : ownE W' B v' ps') (hb : Below B W W') : DaS w R g B s id gen (W'.setCell ⟨g, 5, none⟩ v') p v' ps' := by
  have := h.r1
  have := h.r2
  have := h.b1
  have := h.b2
  refine ⟨(h.bel.trans (hb.mono (by omega))).setCell (p := ⟨g, 5, none⟩) (by simp only; omega) _, (h.z.later hb (by omega)).other (p := ⟨g, 5, none⟩) _ (by simp only; omega), RdI.other (p := ⟨g, 5, none⟩) ((hb.block R h.b1).trans h.rd) _ h.n1, (h.hg.later hb h.b2).set5 v', ho.same (fun k hk hB => Below.heap_setCell _ _ _ k (by simp only; omega)), h.r1, h.r2, h.n1, h.b1, h.b2, ?_⟩
  have := hb.size
  have := h.b3
  simp
  omega
theorem DaS.drew {w : World} {R g B : Nat} {s : ByteArray} {id gen : Int} {W : World} {p : Nat} {v : Value} {ps : List ER} (h : DaS w R g B s id gen W p v ps) : DaS w R g B s id gen W.drew p v ps :=
  ⟨h.bel.drew, h.z, h.rd, h.hg, h.own.same (fun _ _ _ => rfl), h.r1, h.r2, h.n1, h.b1, h.b2, h.b3⟩
theorem DaS.drewN {w : World} {R g B : Nat} {s : ByteArray} {id gen : Int} {W : World} {p : Nat} {v : Value} {ps : List ER} (h : DaS w R g B s id gen W p v ps) (n : Nat) : DaS w R g B s id gen (W.drewN n) p v ps := by
  induction n with
  | zero => exact h
  | succ n ih => exact ih.drew
set_option maxHeartbeats 25600000 in
theorem deltaOf_any (w : World) (b : ByteArray) (hs : b.size ≤ 1125899906842624) (hT : HalfAt w) : Calls Tryz.prog 41 #[.string b] w (DoC w b) := by
  have hb0 : Below w.heap.size w (w.alloc (.cells #[.int .i64 0, .int .u64 0, .int .u64 0, .slice none 0 0, .int .i64 0, .slice none 0 0] 26)) := (Below.refl _ _).alloc (Nat.le_refl _) _
  have HB0 : Hid _ := hb0
  have HZ0 : Hid (Fp6 (w.alloc (.cells #[.int .i64 0, .int .u64 0, .int .u64 0, .slice none 0 0, .int .i64 0, .slice none 0 0] 26)) w.heap.size (.int .i64 0) (.int .u64 0) (.int .u64 0) (.slice none 0 0) (.int .i64 0) (.slice none 0 0)) := heap_alloc_new w _
  have HO : Hid (∀ _ : Unit, _) := fun _ => open_any b mgDB (w.alloc (.cells #[.int .i64 0, .int .u64 0, .int .u64 0, .slice none 0 0, .int .i64 0, .slice none 0 0] 26)) rfl hs (hT.later hb0)
  have hsz : (b.extract 0 (b.size - 4)).size ≤ 1125899906842624 := by rw [ByteArray.size_extract]; omega
  have h12 : opE b mgDB = 0 → 8 ≤ (b.extract 0 (b.size - 4)).size := fun h => by
    rw [ByteArray.size_extract]
    unfold opE at h
    split at h
    · cases h
    · omega
  have HSZ : Hid _ := h12
  clear hT hb0 h12
  go_enter Tryz.func41, Tryz.ntmps41
  go_wp2_with fail
  generalize hw0 : w.alloc (.cells #[.int .i64 0, .int .u64 0, .int .u64 0, .slice none 0 0, .int .i64 0, .slice none 0 0] 26) = y0 at *
  clear hw0
  refine (HO.out ()).mono ?_
  rintro e w1 ⟨hb1, hor⟩
  rcases hor.symm with ⟨hne, rfl⟩ | ⟨h0, R, rfl, hR, hrd⟩
  · exact ⟨rfl, DoC.no (HB0.out.trans (hb1.mono HB0.out.size)) (.inl ⟨hne, rfl⟩)⟩
  clear hor
  have HOP : Hid (opE b mgDB = 0) := h0
  have h8 := HSZ.out h0
  have HZ1 : Hid (Fp6 w1 w.heap.size (.int .i64 0) (.int .u64 0) (.int .u64 0) (.slice none 0 0) (.int .i64 0) (.slice none 0 0)) := HZ0.out.later hb1 HZ0.out.lt
  have HB1 : Hid (Below w.heap.size w w1) := HB0.out.trans (hb1.mono HB0.out.size)
  have hzr : w.heap.size < R := Nat.lt_of_lt_of_le HZ0.out.lt hR
  have HR1 : Hid (RdI w1 R (b.extract 0 (b.size - 4)) 8) := hrd
  have HN : Hid (rdD (b.extract 0 (b.size - 4)) = none → DoNo b 125) := fun h => DoNo.none HOP.out h
  clear h0 hb1 hrd HO HB0 HZ0 HSZ hR
  generalize hss : b.extract 0 (b.size - 4) = s at *
  have HSS : Hid _ := hss
  clear hss
  have hp0 := h8
  have HC1 : Hid (∀ _ : Unit, _) := fun _ => countI R s 8 99999999 w1 HR1.out hp0 hsz (by omega) (by omega)
  cases hx1 : rdU s 8 99999999 with
  | none =>
    rw [hx1] at HC1
    go_wp2_with fail
    refine (HC1.out ()).mono ?_
    intro e w2 ht
    obtain ⟨hf, rfl⟩ := ht.noD
    exact ⟨rfl, DoC.no (HB1.out.trans (hf.toBelow.mono (Nat.le_of_lt hzr))) (HN.out (rdD_n1  hx1))⟩
  | some yy =>
    obtain ⟨x1, p1⟩ := yy
    rw [hx1] at HC1
    have HX1 : Hid _ := hx1
    obtain ⟨ff, qq, lb1, ub1⟩ := rdU_form hx1
    have hp1 := ff.size hp0
    rw [← qq] at hp1
    clear ff qq hx1 hp0
    go_wp2_with fail
    refine (HC1.out ()).mono ?_
    intro e w2 ht
    obtain ⟨hf, rfl, hr⟩ := ht.yesD
    have HB2 : Hid (Below w.heap.size w w2) := HB1.out.trans (hf.toBelow.mono (Nat.le_of_lt hzr))
    have HZ2 : Hid (Fp6 w2 w.heap.size (.int .i64 0) (.int .u64 0) (.int .u64 0) (.slice none 0 0) (.int .i64 0) (.slice none 0 0)) := HZ1.out.fr hf (by omega)
    have HR2 : Hid (RdI w2 R s p1) := hr
    clear hf hr ht HC1 HB1 HZ1 HR1
    have HC2 : Hid (∀ _ : Unit, _) := fun _ => countI R s p1 99999999 w2 HR2.out hp1 hsz (by omega) (by omega)
    cases hx2 : rdU s p1 99999999 with
    | none =>
      rw [hx2] at HC2
      go_wp2_with fail
      refine (HC2.out ()).mono ?_
      intro e w2 ht
      obtain ⟨hf, rfl⟩ := ht.noD
      exact ⟨rfl, DoC.no (HB2.out.trans (hf.toBelow.mono (Nat.le_of_lt hzr))) (HN.out (rdD_n2 HX1.out hx2))⟩
    | some yy =>
      obtain ⟨x2, p2⟩ := yy
      rw [hx2] at HC2
      have HX2 : Hid _ := hx2
      obtain ⟨ff, qq, lb2, ub2⟩ := rdU_form hx2
      have hp2 := ff.size hp1
      rw [← qq] at hp2
      clear ff qq hx2 hp1
      go_wp2_with fail
      refine (HC2.out ()).mono ?_
      intro e w3 ht
      obtain ⟨hf, rfl, hr⟩ := ht.yesD
      have HB3 : Hid (Below w.heap.size w w3) := HB2.out.trans (hf.toBelow.mono (Nat.le_of_lt hzr))
      have HZ3 : Hid (Fp6 w3 w.heap.size (.int .i64 0) (.int .u64 0) (.int .u64 0) (.slice none 0 0) (.int .i64 0) (.slice none 0 0)) := HZ2.out.fr hf (by omega)
      have HR3 : Hid (RdI w3 R s p2) := hr
      clear hf hr ht HC2 HB2 HZ2 HR2
      have hba : Below w3.heap.size w3 (w3.alloc (.cells #[.int .i64 x1, .int .u64 0, .int .u64 0, .slice none 0 0, .int .i64 x2, .slice none 0 0] 26)) := (Below.refl _ _).alloc (Nat.le_refl _) _
      have hR3 := HR3.out.lt
      have HS3 : Hid (DaS w R w3.heap.size (w3.heap.size + 1) s x1 x2 (w3.alloc (.cells #[.int .i64 x1, .int .u64 0, .int .u64 0, .slice none 0 0, .int .i64 x2, .slice none 0 0] 26)) p2 (.slice none 0 0) []) := ⟨HB3.out.trans (hba.mono HB3.out.size), HZ3.out.later hba HZ3.out.lt, HR3.out.later hba, heap_alloc_new w3 _, ownE_nil _ _, hzr, by omega, by omega, by omega, by omega, by simp⟩
      clear hba HB3 HZ3 HR3
      go_wp2_with fail
      generalize hya : w3.alloc (.cells #[.int .i64 x1, .int .u64 0, .int .u64 0, .slice none 0 0, .int .i64 x2, .slice none 0 0] 26) = y3 at *
      generalize hgg : w3.heap.size = g at *
      clear hya hgg hR3
      have HC3 : Hid (∀ _ : Unit, _) := fun _ => countI R s p2 65536 y3 HS3.out.rd hp2 hsz (by omega) (by omega)
      cases hx3 : rdU s p2 65536 with
      | none =>
        rw [hx3] at HC3
        refine (HC3.out ()).mono ?_
        intro e w5 ht
        obtain ⟨hf, rfl⟩ := ht.noD
        exact ⟨rfl, DoC.no (HS3.out.bel.trans (hf.toBelow.mono (Nat.le_of_lt hzr))) (HN.out (rdD_n3 HX1.out HX2.out hx3))⟩
      | some yy =>
        obtain ⟨x3, p3⟩ := yy
        rw [hx3] at HC3
        obtain ⟨ff, qq, lb3, ub3⟩ := rdU_form hx3
        have hp3 := ff.size hp2
        rw [← qq] at hp3
        clear ff qq hp2
        obtain ⟨n, rfl⟩ := Int.eq_ofNat_of_zero_le lb3
        have HM4 : Hid (rdD s = (restE s [] n p3 0).bind fun y => if y.2 = s.size then some ((x1, x2), y.1) else none) := rdD_4 HX1.out HX2.out hx3
        clear hx3 HX1 HX2
        refine (HC3.out ()).mono ?_
        intro e w5 ht
        obtain ⟨hf, rfl, hr⟩ := ht.yesD
        have HS5 : Hid (DaS w R g (g + 1) s x1 x2 w5 p3 (.slice none 0 0) []) := HS3.out.read hf hr
        clear hf hr ht HC3 HS3
        go_wp2_with fail
        go_loopw [5, 15] (fun h i wr => ∃ (k p : Nat) (last : Int) (v : Value) (ps : List ER), k ≤ n ∧ i = .int .i64 k ∧ h = .int .u64 last ∧ 0 ≤ last ∧ last ≤ 4611686018427387903 ∧ p ≤ s.size ∧ ps.length = k ∧ (∀ q ∈ ps, q.wf) ∧ DaS w R g (g + 1) s x1 x2 wr p v ps ∧ restE s [] n p3 0 = restE s ps (n - k) p last) (fun _ i _ => n - (intOf i).toNat)
        case atStart => exact ⟨0, p3, 0, .slice none 0 0, [], by omega, rfl, rfl, by omega, by omega, hp3, rfl, (fun _ h => by cases h), HS5.out, rfl⟩
        case round =>
          obtain ⟨k, p, last, v, ps, hk, rfl, rfl, hl0, hl1, hps, hlen, hwf, hS, hrest⟩ := hrel
          have HSk : Hid (DaS w R g (g + 1) s x1 x2 wr p v ps) := hS
          have HWF : Hid (∀ q ∈ ps, q.wf) := hwf
          have HRs : Hid (restE s [] n p3 0 = restE s ps (n - k) p last) := hrest
          have HLN : Hid (ps.length = k) := hlen
          clear hS hwf hrest hlen HS5
          by_cases hlt : k < n
          · have HNz : Hid (rdE s p last = none → rdD s = none) := fun hv => by
              rw [HM4.out, HRs.out, show n - k = n - (k + 1) + 1 from by omega, restE_no hv]
              rfl
            have HC5 : Hid (∀ _ : Unit, _) := fun _ => numberI R s p (4611686018427387903 - last) wr HSk.out.rd hps hsz
            cases h5 : rdU s p (4611686018427387903 - last) with
            | none =>
              rw [h5] at HC5
              have HNo : Hid (rdD s = none) := HNz.out (by rw [rdE, h5]; rfl)
              go_wp2_with fail
              refine (HC5.out ()).mono ?_
              intro e w6 ht
              obtain ⟨hf, rfl⟩ := ht.noD
              exact ⟨rfl, DoC.no (HSk.out.bel.trans (hf.toBelow.mono (Nat.le_of_lt hzr))) (HN.out HNo.out)⟩
            | some yy =>
              obtain ⟨a1, q1⟩ := yy
              rw [h5] at HC5
              obtain ⟨ff, qq, la1, ua1⟩ := rdU_form h5
              have hq1 := ff.size hps
              rw [← qq] at hq1
              clear ff qq
              have HE5 : Hid (rdE s p last = (rdU s q1 (4611686018427387903 - (last + a1))).bind fun x2 => (rdB s x2.2).bind fun x3 => some (⟨last + a1, last + a1 + x2.1, x3.1⟩, x3.2)) := by show _ = _; rw [rdE, h5]; rfl
              clear h5
              go_wp2_with fail
              refine (HC5.out ()).mono ?_
              intro e w6 ht
              obtain ⟨hf, rfl, hr⟩ := ht.yesD
              have HS6 : Hid (DaS w R g (g + 1) s x1 x2 w6 q1 v ps) := HSk.out.read hf hr
              clear hf hr ht HC5 HSk hps
              have c5 : w6.cell? ⟨g, 5, none⟩ = some v := HS6.out.hg.cell 5
              obtain ⟨ao, cap, rfl, -, -⟩ := HS6.out.own.slice
              go_wp2_with fail
              generalize hL : last + a1 = L at *
              have hL0 : 0 ≤ L := by omega
              have hL1 : L ≤ 4611686018427387903 := by omega
              have hw1 : IntKind.u64.wrap (4611686018427387903 - L) = 4611686018427387903 - L := by rw [IntKind.wrap_u64]; omega
              have HC7 : Hid (∀ _ : Unit, _) := fun _ => numberI R s q1 (4611686018427387903 - L) w6.drew HS6.out.drew.rd hq1 hsz
              have HLen : Hid ((ps.length + 1) * 32 ≤ 140737488355328) := by have := HLN.out; show _ ≤ _; omega
              cases h7 : rdU s q1 (4611686018427387903 - L) with
              | none =>
                rw [h7] at HC7
                have HNo : Hid (rdD s = none) := HNz.out (by rw [HE5.out, h7]; rfl)
                (refine wp_region_held_drew (S := (fun _ => True)) (by kernel_rfl) trivial (fun hHeld => ?_); simp only [List.size_toArray, List.length_cons, List.length_nil, Nat.reduceAdd, Array.replicate_succ, Array.replicate_zero, List.push_toArray, List.append_toArray, List.nil_append, List.cons_append])
                (refine tk0 (v := ?_) (by kernel_rfl) (by kernel_rfl) (by kernel_rfl) (fun _ _ _ h => h) (Or.inl ⟨by rfl, ?_⟩) (by assumption) ?_; rotate_left; (focus (intro w hSw; (try dsimp only at hSw); go_simp; (try first | (rw [dif_pos (by omega)]; simp only [Result.andThen_ok]) | rw [if_pos (by omega)]); (try with_reducible rfl); done)); try simp only [Act.put, List.setIfInBounds_toArray, List.set_cons_zero, List.set_cons_succ])
                (refine tk2 (v := ?_) (by kernel_rfl) (by kernel_rfl) (by kernel_rfl) (fun _ _ _ h => h) (Or.inl ⟨by rfl, ?_⟩) (by assumption) ?_; rotate_left; (focus (intro w hSw; (try dsimp only at hSw); go_simp; (try first | (rw [dif_pos (by omega)]; simp only [Result.andThen_ok]) | rw [if_pos (by omega)]); (try with_reducible rfl); done)); try simp only [Act.put, List.setIfInBounds_toArray, List.set_cons_zero, List.set_cons_succ])
                (refine tk3 (v := ?_) (by kernel_rfl) (by kernel_rfl) (by kernel_rfl) (fun _ _ _ h => h) (Or.inl ⟨by rfl, ?_⟩) (by assumption) ?_; rotate_left; (focus (intro w hSw; (try dsimp only at hSw); go_simp; (try first | (rw [dif_pos (by omega)]; simp only [Result.andThen_ok]) | rw [if_pos (by omega)]); (try with_reducible rfl); done)); try simp only [Act.put, List.setIfInBounds_toArray, List.set_cons_zero, List.set_cons_succ])
                (refine tk4 (v := ?_) (by kernel_rfl) (by kernel_rfl) (by kernel_rfl) (fun _ _ _ h => h) (Or.inl ⟨by rfl, ?_⟩) (by assumption) ?_; rotate_left; (focus (intro w hSw; (try dsimp only at hSw); go_simp; (try first | (rw [dif_pos (by omega)]; simp only [Result.andThen_ok]) | rw [if_pos (by omega)]); (try with_reducible rfl); done)); try simp only [Act.put, List.setIfInBounds_toArray, List.set_cons_zero, List.set_cons_succ])
                (refine tk5 (v := ?_) (by kernel_rfl) (by kernel_rfl) (by kernel_rfl) (fun _ _ _ h => h) (Or.inl ⟨by rfl, ?_⟩) (by assumption) ?_; rotate_left; (focus (intro w hSw; (try dsimp only at hSw); go_simp; (try first | (rw [dif_pos (by omega)]; simp only [Result.andThen_ok]) | rw [if_pos (by omega)]); (try with_reducible rfl); done)); try simp only [Act.put, List.setIfInBounds_toArray, List.set_cons_zero, List.set_cons_succ])
                (refine tk6 (v := ?_) (by kernel_rfl) (by kernel_rfl) (by kernel_rfl) (fun _ _ _ h => h) (Or.inl ⟨by rfl, ?_⟩) (by assumption) ?_; rotate_left; (focus (intro w hSw; (try dsimp only at hSw); go_simp; (try first | (rw [dif_pos (by omega)]; simp only [Result.andThen_ok]) | rw [if_pos (by omega)]); (try with_reducible rfl); done)); try simp only [Act.put, List.setIfInBounds_toArray, List.set_cons_zero, List.set_cons_succ])
                (refine tk9 (v := ?_) (by kernel_rfl) (by kernel_rfl) (by kernel_rfl) (fun _ _ _ h => h) (Or.inl ⟨by rfl, ?_⟩) (by assumption) ?_; rotate_left; (focus (intro w hSw; (try dsimp only at hSw); go_simp; (try first | (rw [dif_pos (by omega)]; simp only [Result.andThen_ok]) | rw [if_pos (by omega)]); (try with_reducible rfl); done)); try simp only [Act.put, List.setIfInBounds_toArray, List.set_cons_zero, List.set_cons_succ])
                (refine wpAnyH_ready (rs := [1, 7]) (by kernel_rfl) (by simp) ?_; refine ar1 (fun K hK => ?_) (ar7 (fun K hK => ?_) AllReadyH.nil) <;> go_simp)
                · (refine hK.out _ _ trivial (fun hHeld => ?_); clear hK K; try simp only [Act.put, List.setIfInBounds_toArray, List.set_cons_zero, List.set_cons_succ])
                  (refine wpAnyH_ready (rs := [7]) (by kernel_rfl) (by simp) ?_; refine ar7 (fun K hK => ?_) AllReadyH.nil; go_simp)
                  refine (HC7.out ()).mono ?_
                  intro e w7 ht
                  obtain ⟨hf, rfl⟩ := ht.noD
                  exact ⟨rfl, DoC.no (HS6.out.drew.bel.trans (hf.toBelow.mono (Nat.le_of_lt hzr))) (HN.out HNo.out)⟩
                · refine (HC7.out ()).mono ?_
                  intro e w7 ht
                  obtain ⟨hf, rfl⟩ := ht.noD
                  exact ⟨rfl, DoC.no (HS6.out.drew.bel.trans (hf.toBelow.mono (Nat.le_of_lt hzr))) (HN.out HNo.out)⟩
              | some yy =>
                obtain ⟨a2, q2⟩ := yy
                rw [h7] at HC7
                obtain ⟨ff, qq, la2, ua2⟩ := rdU_form h7
                have hq2 := ff.size hq1
                rw [← qq] at hq2
                clear ff qq
                have HE7 : Hid (rdE s p last = (rdB s q2).bind fun x3 => some (⟨L, L + a2, x3.1⟩, x3.2)) := by show _ = _; rw [HE5.out, h7]; rfl
                clear h7
                have hw2 : IntKind.u64.wrap (L + a2) = L + a2 := by rw [IntKind.wrap_u64]; omega
                have HC8 : Hid (∀ W, RdI W R s q2 → _) := fun W h => takeBI R s q2 W h hq2 hsz
                cases h8 : rdB s q2 with
                | none =>
                  rw [h8] at HC8
                  have HNo : Hid (rdD s = none) := HNz.out (by rw [HE7.out, h8]; rfl)
                  (refine wp_region_held_drew (S := (fun _ => True)) (by kernel_rfl) trivial (fun hHeld => ?_); simp only [List.size_toArray, List.length_cons, List.length_nil, Nat.reduceAdd, Array.replicate_succ, Array.replicate_zero, List.push_toArray, List.append_toArray, List.nil_append, List.cons_append])
                  (refine tk0 (v := ?_) (by kernel_rfl) (by kernel_rfl) (by kernel_rfl) (fun _ _ _ h => h) (Or.inl ⟨by rfl, ?_⟩) (by assumption) ?_; rotate_left; (focus (intro w hSw; (try dsimp only at hSw); go_simp; (try first | (rw [dif_pos (by omega)]; simp only [Result.andThen_ok]) | rw [if_pos (by omega)]); (try with_reducible rfl); done)); try simp only [Act.put, List.setIfInBounds_toArray, List.set_cons_zero, List.set_cons_succ])
                  (refine tk2 (v := ?_) (by kernel_rfl) (by kernel_rfl) (by kernel_rfl) (fun _ _ _ h => h) (Or.inl ⟨by rfl, ?_⟩) (by assumption) ?_; rotate_left; (focus (intro w hSw; (try dsimp only at hSw); go_simp; (try first | (rw [dif_pos (by omega)]; simp only [Result.andThen_ok]) | rw [if_pos (by omega)]); (try with_reducible rfl); done)); try simp only [Act.put, List.setIfInBounds_toArray, List.set_cons_zero, List.set_cons_succ])
                  (refine tk3 (v := ?_) (by kernel_rfl) (by kernel_rfl) (by kernel_rfl) (fun _ _ _ h => h) (Or.inl ⟨by rfl, ?_⟩) (by assumption) ?_; rotate_left; (focus (intro w hSw; (try dsimp only at hSw); go_simp; (try first | (rw [dif_pos (by omega)]; simp only [Result.andThen_ok]) | rw [if_pos (by omega)]); (try with_reducible rfl); done)); try simp only [Act.put, List.setIfInBounds_toArray, List.set_cons_zero, List.set_cons_succ])
                  (refine tk4 (v := ?_) (by kernel_rfl) (by kernel_rfl) (by kernel_rfl) (fun _ _ _ h => h) (Or.inl ⟨by rfl, ?_⟩) (by assumption) ?_; rotate_left; (focus (intro w hSw; (try dsimp only at hSw); go_simp; (try first | (rw [dif_pos (by omega)]; simp only [Result.andThen_ok]) | rw [if_pos (by omega)]); (try with_reducible rfl); done)); try simp only [Act.put, List.setIfInBounds_toArray, List.set_cons_zero, List.set_cons_succ])
                  (refine tk5 (v := ?_) (by kernel_rfl) (by kernel_rfl) (by kernel_rfl) (fun _ _ _ h => h) (Or.inl ⟨by rfl, ?_⟩) (by assumption) ?_; rotate_left; (focus (intro w hSw; (try dsimp only at hSw); go_simp; (try first | (rw [dif_pos (by omega)]; simp only [Result.andThen_ok]) | rw [if_pos (by omega)]); (try with_reducible rfl); done)); try simp only [Act.put, List.setIfInBounds_toArray, List.set_cons_zero, List.set_cons_succ])
                  (refine tk6 (v := ?_) (by kernel_rfl) (by kernel_rfl) (by kernel_rfl) (fun _ _ _ h => h) (Or.inl ⟨by rfl, ?_⟩) (by assumption) ?_; rotate_left; (focus (intro w hSw; (try dsimp only at hSw); go_simp; (try first | (rw [dif_pos (by omega)]; simp only [Result.andThen_ok]) | rw [if_pos (by omega)]); (try with_reducible rfl); done)); try simp only [Act.put, List.setIfInBounds_toArray, List.set_cons_zero, List.set_cons_succ])
                  (refine tk9 (v := ?_) (by kernel_rfl) (by kernel_rfl) (by kernel_rfl) (fun _ _ _ h => h) (Or.inl ⟨by rfl, ?_⟩) (by assumption) ?_; rotate_left; (focus (intro w hSw; (try dsimp only at hSw); go_simp; (try first | (rw [dif_pos (by omega)]; simp only [Result.andThen_ok]) | rw [if_pos (by omega)]); (try with_reducible rfl); done)); try simp only [Act.put, List.setIfInBounds_toArray, List.set_cons_zero, List.set_cons_succ])
                  (refine wpAnyH_ready (rs := [1, 7]) (by kernel_rfl) (by simp) ?_; refine ar1 (fun K hK => ?_) (ar7 (fun K hK => ?_) AllReadyH.nil) <;> go_simp)
                  · (refine hK.out _ _ trivial (fun hHeld => ?_); clear hK K; try simp only [Act.put, List.setIfInBounds_toArray, List.set_cons_zero, List.set_cons_succ])
                    (refine wpAnyH_ready (rs := [7]) (by kernel_rfl) (by simp) ?_; refine ar7 (fun K hK => ?_) AllReadyH.nil; go_simp)
                    refine (HC7.out ()).mono ?_
                    intro e w7 ht
                    obtain ⟨hf, rfl, hr⟩ := ht.yesD
                    have HS7 : Hid (DaS w R g (g + 1) s x1 x2 w7 q2 (.slice ao ps.length cap) ps) := HS6.out.drew.read hf hr
                    have c7 : w7.cell? ⟨g, 5, none⟩ = some (.slice ao ps.length cap) := HS7.out.hg.cell 5
                    clear hf hr ht
                    (refine hK.out _ _ trivial (fun hHeld => ?_); clear hK K; try simp only [Act.put, List.setIfInBounds_toArray, List.set_cons_zero, List.set_cons_succ])
                    (refine tk8 (v := ?_) (by kernel_rfl) (by kernel_rfl) (by kernel_rfl) (fun _ _ _ h => h) (Or.inl ⟨by rfl, ?_⟩) (by assumption) ?_; rotate_left; (focus (intro w hSw; (try dsimp only at hSw); go_simp; (try first | (rw [dif_pos (by omega)]; simp only [Result.andThen_ok]) | rw [if_pos (by omega)]); (try with_reducible rfl); done)); try simp only [Act.put, List.setIfInBounds_toArray, List.set_cons_zero, List.set_cons_succ])
                    (refine wpAnyH_ready (rs := [10]) (by kernel_rfl) (by simp) ?_; refine ar10 (fun K hK => ?_) AllReadyH.nil; go_simp)
                    refine (HC8.out w7 HS7.out.rd).mono ?_
                    intro e w8 ht
                    obtain ⟨hf, rfl⟩ := ht.no
                    exact ⟨rfl, DoC.no (HS7.out.bel.trans (hf.toBelow.mono (Nat.le_of_lt hzr))) (HN.out HNo.out)⟩
                  · refine (HC7.out ()).mono ?_
                    intro e w7 ht
                    obtain ⟨hf, rfl, hr⟩ := ht.yesD
                    have HS7 : Hid (DaS w R g (g + 1) s x1 x2 w7 q2 (.slice ao ps.length cap) ps) := HS6.out.drew.read hf hr
                    have c7 : w7.cell? ⟨g, 5, none⟩ = some (.slice ao ps.length cap) := HS7.out.hg.cell 5
                    clear hf hr ht
                    (refine hK.out _ _ trivial (fun hHeld => ?_); clear hK K; try simp only [Act.put, List.setIfInBounds_toArray, List.set_cons_zero, List.set_cons_succ])
                    (refine tk8 (v := ?_) (by kernel_rfl) (by kernel_rfl) (by kernel_rfl) (fun _ _ _ h => h) (Or.inl ⟨by rfl, ?_⟩) (by assumption) ?_; rotate_left; (focus (intro w hSw; (try dsimp only at hSw); go_simp; (try first | (rw [dif_pos (by omega)]; simp only [Result.andThen_ok]) | rw [if_pos (by omega)]); (try with_reducible rfl); done)); try simp only [Act.put, List.setIfInBounds_toArray, List.set_cons_zero, List.set_cons_succ])
                    (refine wpAnyH_ready (rs := [1, 10]) (by kernel_rfl) (by simp) ?_; refine ar1 (fun K hK => ?_) (ar10 (fun K hK => ?_) AllReadyH.nil) <;> go_simp)
                    · (refine hK.out _ _ trivial (fun hHeld => ?_); clear hK K; try simp only [Act.put, List.setIfInBounds_toArray, List.set_cons_zero, List.set_cons_succ])
                      (refine wpAnyH_ready (rs := [10]) (by kernel_rfl) (by simp) ?_; refine ar10 (fun K hK => ?_) AllReadyH.nil; go_simp)
                      refine (HC8.out w7 HS7.out.rd).mono ?_
                      intro e w8 ht
                      obtain ⟨hf, rfl⟩ := ht.no
                      exact ⟨rfl, DoC.no (HS7.out.bel.trans (hf.toBelow.mono (Nat.le_of_lt hzr))) (HN.out HNo.out)⟩
                    · refine (HC8.out w7 HS7.out.rd).mono ?_
                      intro e w8 ht
                      obtain ⟨hf, rfl⟩ := ht.no
                      exact ⟨rfl, DoC.no (HS7.out.bel.trans (hf.toBelow.mono (Nat.le_of_lt hzr))) (HN.out HNo.out)⟩
                | some yy =>
                  obtain ⟨ky, q3⟩ := yy
                  rw [h8] at HC8
                  obtain ⟨_, _, hq3, hky⟩ := rdB_form h8
                  have HRs2 : Hid (restE s [] n p3 0 = restE s (ps ++ [⟨L, L + a2, ky⟩]) (n - (k + 1)) q3 L) := by
                    show _ = _
                    have he : rdE s p last = some (⟨L, L + a2, ky⟩, q3) := by rw [HE7.out, h8]; rfl
                    rw [HRs.out, show n - k = n - (k + 1) + 1 from by omega, restE_yes he]
                  clear h8
                  (refine wp_region_held_drew (S := (fun _ => True)) (by kernel_rfl) trivial (fun hHeld => ?_); simp only [List.size_toArray, List.length_cons, List.length_nil, Nat.reduceAdd, Array.replicate_succ, Array.replicate_zero, List.push_toArray, List.append_toArray, List.nil_append, List.cons_append])
                  (refine tk0 (v := ?_) (by kernel_rfl) (by kernel_rfl) (by kernel_rfl) (fun _ _ _ h => h) (Or.inl ⟨by rfl, ?_⟩) (by assumption) ?_; rotate_left; (focus (intro w hSw; (try dsimp only at hSw); go_simp; (try first | (rw [dif_pos (by omega)]; simp only [Result.andThen_ok]) | rw [if_pos (by omega)]); (try with_reducible rfl); done)); try simp only [Act.put, List.setIfInBounds_toArray, List.set_cons_zero, List.set_cons_succ])
                  (refine tk2 (v := ?_) (by kernel_rfl) (by kernel_rfl) (by kernel_rfl) (fun _ _ _ h => h) (Or.inl ⟨by rfl, ?_⟩) (by assumption) ?_; rotate_left; (focus (intro w hSw; (try dsimp only at hSw); go_simp; (try first | (rw [dif_pos (by omega)]; simp only [Result.andThen_ok]) | rw [if_pos (by omega)]); (try with_reducible rfl); done)); try simp only [Act.put, List.setIfInBounds_toArray, List.set_cons_zero, List.set_cons_succ])
                  (refine tk3 (v := ?_) (by kernel_rfl) (by kernel_rfl) (by kernel_rfl) (fun _ _ _ h => h) (Or.inl ⟨by rfl, ?_⟩) (by assumption) ?_; rotate_left; (focus (intro w hSw; (try dsimp only at hSw); go_simp; (try first | (rw [dif_pos (by omega)]; simp only [Result.andThen_ok]) | rw [if_pos (by omega)]); (try with_reducible rfl); done)); try simp only [Act.put, List.setIfInBounds_toArray, List.set_cons_zero, List.set_cons_succ])
                  (refine tk4 (v := ?_) (by kernel_rfl) (by kernel_rfl) (by kernel_rfl) (fun _ _ _ h => h) (Or.inl ⟨by rfl, ?_⟩) (by assumption) ?_; rotate_left; (focus (intro w hSw; (try dsimp only at hSw); go_simp; (try first | (rw [dif_pos (by omega)]; simp only [Result.andThen_ok]) | rw [if_pos (by omega)]); (try with_reducible rfl); done)); try simp only [Act.put, List.setIfInBounds_toArray, List.set_cons_zero, List.set_cons_succ])
                  (refine tk5 (v := ?_) (by kernel_rfl) (by kernel_rfl) (by kernel_rfl) (fun _ _ _ h => h) (Or.inl ⟨by rfl, ?_⟩) (by assumption) ?_; rotate_left; (focus (intro w hSw; (try dsimp only at hSw); go_simp; (try first | (rw [dif_pos (by omega)]; simp only [Result.andThen_ok]) | rw [if_pos (by omega)]); (try with_reducible rfl); done)); try simp only [Act.put, List.setIfInBounds_toArray, List.set_cons_zero, List.set_cons_succ])
                  (refine tk6 (v := ?_) (by kernel_rfl) (by kernel_rfl) (by kernel_rfl) (fun _ _ _ h => h) (Or.inl ⟨by rfl, ?_⟩) (by assumption) ?_; rotate_left; (focus (intro w hSw; (try dsimp only at hSw); go_simp; (try first | (rw [dif_pos (by omega)]; simp only [Result.andThen_ok]) | rw [if_pos (by omega)]); (try with_reducible rfl); done)); try simp only [Act.put, List.setIfInBounds_toArray, List.set_cons_zero, List.set_cons_succ])
                  (refine tk9 (v := ?_) (by kernel_rfl) (by kernel_rfl) (by kernel_rfl) (fun _ _ _ h => h) (Or.inl ⟨by rfl, ?_⟩) (by assumption) ?_; rotate_left; (focus (intro w hSw; (try dsimp only at hSw); go_simp; (try first | (rw [dif_pos (by omega)]; simp only [Result.andThen_ok]) | rw [if_pos (by omega)]); (try with_reducible rfl); done)); try simp only [Act.put, List.setIfInBounds_toArray, List.set_cons_zero, List.set_cons_succ])
                  (refine wpAnyH_ready (rs := [1, 7]) (by kernel_rfl) (by simp) ?_; refine ar1 (fun K hK => ?_) (ar7 (fun K hK => ?_) AllReadyH.nil) <;> go_simp)
                  · (refine hK.out _ _ trivial (fun hHeld => ?_); clear hK K; try simp only [Act.put, List.setIfInBounds_toArray, List.set_cons_zero, List.set_cons_succ])
                    (refine wpAnyH_ready (rs := [7]) (by kernel_rfl) (by simp) ?_; refine ar7 (fun K hK => ?_) AllReadyH.nil; go_simp)
                    refine (HC7.out ()).mono ?_
                    intro e w7 ht
                    obtain ⟨hf, rfl, hr⟩ := ht.yesD
                    have HS7 : Hid (DaS w R g (g + 1) s x1 x2 w7 q2 (.slice ao ps.length cap) ps) := HS6.out.drew.read hf hr
                    have c7 : w7.cell? ⟨g, 5, none⟩ = some (.slice ao ps.length cap) := HS7.out.hg.cell 5
                    clear hf hr ht
                    (refine hK.out _ _ trivial (fun hHeld => ?_); clear hK K; try simp only [Act.put, List.setIfInBounds_toArray, List.set_cons_zero, List.set_cons_succ])
                    (refine tk8 (v := ?_) (by kernel_rfl) (by kernel_rfl) (by kernel_rfl) (fun _ _ _ h => h) (Or.inl ⟨by rfl, ?_⟩) (by assumption) ?_; rotate_left; (focus (intro w hSw; (try dsimp only at hSw); go_simp; (try first | (rw [dif_pos (by omega)]; simp only [Result.andThen_ok]) | rw [if_pos (by omega)]); (try with_reducible rfl); done)); try simp only [Act.put, List.setIfInBounds_toArray, List.set_cons_zero, List.set_cons_succ])
                    (refine wpAnyH_ready (rs := [10]) (by kernel_rfl) (by simp) ?_; refine ar10 (fun K hK => ?_) AllReadyH.nil; go_simp)
                    refine (HC8.out w7 HS7.out.rd).mono ?_
                    intro e w8 ht
                    obtain ⟨hf, rfl, hr⟩ := ht.yes
                    have HS8 : Hid (DaS w R g (g + 1) s x1 x2 w8 q3 (.slice ao ps.length cap) ps) := HS7.out.read hf hr
                    have c8 : w8.cell? ⟨g, 5, none⟩ = some (.slice ao ps.length cap) := HS8.out.hg.cell 5
                    have f8 := HS8.out.hg.free 5
                    have hgw : g < w8.heap.size := HS8.out.hg.lt
                    clear hf hr ht
                    (refine hK.out _ _ trivial (fun hHeld => ?_); clear hK K; try simp only [Act.put, List.setIfInBounds_toArray, List.set_cons_zero, List.set_cons_succ])
                    (refine tk11 (v := ?_) (by kernel_rfl) (by kernel_rfl) (by kernel_rfl) (fun _ _ _ h => h) (Or.inl ⟨by rfl, ?_⟩) (by assumption) ?_; rotate_left; (focus (intro w hSw; (try dsimp only at hSw); go_simp; (try first | (rw [dif_pos (by omega)]; simp only [Result.andThen_ok]) | rw [if_pos (by omega)]); (try with_reducible rfl); done)); try simp only [Act.put, List.setIfInBounds_toArray, List.set_cons_zero, List.set_cons_succ])
                    (refine wpAnyH_ready (rs := [12]) (by kernel_rfl) (by simp) ?_; refine ar12 (fun K hK => ?_) AllReadyH.nil; go_simp)
                    (refine hK.out _ _ trivial (fun hHeld => ?_); clear hK K; try simp only [Act.put, List.setIfInBounds_toArray, List.set_cons_zero, List.set_cons_succ])
                    (refine wpAnyH_ready (rs := [13]) (by kernel_rfl) (by simp) ?_; refine ar13 (fun K hK => ?_) AllReadyH.nil; rw [if_pos (by rfl)])
                    refine app_er_wp _ _ (by rfl) (g + 1) _ ps ⟨L, L + a2, ky⟩ HS8.out.own (by rfl) w8.heap.size rfl (by rfl) HLen.out (by omega) ?_
                    intro v' w' ho' hb'
                    obtain ⟨a', n', c', rfl⟩ := ho'.isSlice
                    have HS9 : Hid _ := HS8.out.app ho' hb'
                    have k9 : w'.cell? ⟨g, 5, none⟩ = some (.slice ao ps.length cap) := (HS8.out.hg.later hb' (by omega)).cell 5
                    have l9 := (HS8.out.hg.later hb' (by omega)).free 5
                    clear ho' hb'
                    (refine hK.out _ _ trivial (fun hHeld => ?_); clear hK K; try simp only [Act.put, List.setIfInBounds_toArray, List.set_cons_zero, List.set_cons_succ])
                    (refine tk14 (v := ?_) (by kernel_rfl) (by kernel_rfl) (by kernel_rfl) (fun _ _ _ h => h) (Or.inl ⟨by rfl, ?_⟩) (by assumption) ?_; rotate_left; (focus (intro w hSw; (try dsimp only at hSw); go_simp; (try first | (rw [dif_pos (by omega)]; simp only [Result.andThen_ok]) | rw [if_pos (by omega)]); (try with_reducible rfl); done)); try simp only [Act.put, List.setIfInBounds_toArray, List.set_cons_zero, List.set_cons_succ])
                    (refine wpAnyH_ready (rs := [15]) (by kernel_rfl) (by simp) ?_; refine ar15 (fun K hK => ?_) AllReadyH.nil; go_simp)
                    (refine hK.out _ _ trivial (fun hHeld => ?_); clear hK K; try simp only [Act.put, List.setIfInBounds_toArray, List.set_cons_zero, List.set_cons_succ])
                    refine wpAnyH_done (by kernel_rfl) ?_ _
                    go_wp2
                    go_roundw
                    case rel => exact ⟨k + 1, q3, L, _, ps ++ [⟨L, L + a2, ky⟩], by omega, by go_num, rfl, hL0, hL1, hq3, by rw [List.length_append, HLN.out]; rfl, (fun y hy => by rcases List.mem_append.1 hy with h | h; exact HWF.out _ h; rw [List.mem_singleton.1 h]; exact ⟨by simp only; omega, by simp only; omega, by simp only; omega, by simp only; omega⟩), HS9.out, HRs2.out⟩
                    case measure => simp [intOf]; omega
                  · refine (HC7.out ()).mono ?_
                    intro e w7 ht
                    obtain ⟨hf, rfl, hr⟩ := ht.yesD
                    have HS7 : Hid (DaS w R g (g + 1) s x1 x2 w7 q2 (.slice ao ps.length cap) ps) := HS6.out.drew.read hf hr
                    have c7 : w7.cell? ⟨g, 5, none⟩ = some (.slice ao ps.length cap) := HS7.out.hg.cell 5
                    clear hf hr ht
                    (refine hK.out _ _ trivial (fun hHeld => ?_); clear hK K; try simp only [Act.put, List.setIfInBounds_toArray, List.set_cons_zero, List.set_cons_succ])
                    (refine tk8 (v := ?_) (by kernel_rfl) (by kernel_rfl) (by kernel_rfl) (fun _ _ _ h => h) (Or.inl ⟨by rfl, ?_⟩) (by assumption) ?_; rotate_left; (focus (intro w hSw; (try dsimp only at hSw); go_simp; (try first | (rw [dif_pos (by omega)]; simp only [Result.andThen_ok]) | rw [if_pos (by omega)]); (try with_reducible rfl); done)); try simp only [Act.put, List.setIfInBounds_toArray, List.set_cons_zero, List.set_cons_succ])
                    (refine wpAnyH_ready (rs := [1, 10]) (by kernel_rfl) (by simp) ?_; refine ar1 (fun K hK => ?_) (ar10 (fun K hK => ?_) AllReadyH.nil) <;> go_simp)
                    · (refine hK.out _ _ trivial (fun hHeld => ?_); clear hK K; try simp only [Act.put, List.setIfInBounds_toArray, List.set_cons_zero, List.set_cons_succ])
                      (refine wpAnyH_ready (rs := [10]) (by kernel_rfl) (by simp) ?_; refine ar10 (fun K hK => ?_) AllReadyH.nil; go_simp)
                      refine (HC8.out w7 HS7.out.rd).mono ?_
                      intro e w8 ht
                      obtain ⟨hf, rfl, hr⟩ := ht.yes
                      have HS8 : Hid (DaS w R g (g + 1) s x1 x2 w8 q3 (.slice ao ps.length cap) ps) := HS7.out.read hf hr
                      have c8 : w8.cell? ⟨g, 5, none⟩ = some (.slice ao ps.length cap) := HS8.out.hg.cell 5
                      have f8 := HS8.out.hg.free 5
                      have hgw : g < w8.heap.size := HS8.out.hg.lt
                      clear hf hr ht
                      (refine hK.out _ _ trivial (fun hHeld => ?_); clear hK K; try simp only [Act.put, List.setIfInBounds_toArray, List.set_cons_zero, List.set_cons_succ])
                      (refine tk11 (v := ?_) (by kernel_rfl) (by kernel_rfl) (by kernel_rfl) (fun _ _ _ h => h) (Or.inl ⟨by rfl, ?_⟩) (by assumption) ?_; rotate_left; (focus (intro w hSw; (try dsimp only at hSw); go_simp; (try first | (rw [dif_pos (by omega)]; simp only [Result.andThen_ok]) | rw [if_pos (by omega)]); (try with_reducible rfl); done)); try simp only [Act.put, List.setIfInBounds_toArray, List.set_cons_zero, List.set_cons_succ])
                      (refine wpAnyH_ready (rs := [12]) (by kernel_rfl) (by simp) ?_; refine ar12 (fun K hK => ?_) AllReadyH.nil; go_simp)
                      (refine hK.out _ _ trivial (fun hHeld => ?_); clear hK K; try simp only [Act.put, List.setIfInBounds_toArray, List.set_cons_zero, List.set_cons_succ])
                      (refine wpAnyH_ready (rs := [13]) (by kernel_rfl) (by simp) ?_; refine ar13 (fun K hK => ?_) AllReadyH.nil; rw [if_pos (by rfl)])
                      refine app_er_wp _ _ (by rfl) (g + 1) _ ps ⟨L, L + a2, ky⟩ HS8.out.own (by rfl) w8.heap.size rfl (by rfl) HLen.out (by omega) ?_
                      intro v' w' ho' hb'
                      obtain ⟨a', n', c', rfl⟩ := ho'.isSlice
                      have HS9 : Hid _ := HS8.out.app ho' hb'
                      have k9 : w'.cell? ⟨g, 5, none⟩ = some (.slice ao ps.length cap) := (HS8.out.hg.later hb' (by omega)).cell 5
                      have l9 := (HS8.out.hg.later hb' (by omega)).free 5
                      clear ho' hb'
                      (refine hK.out _ _ trivial (fun hHeld => ?_); clear hK K; try simp only [Act.put, List.setIfInBounds_toArray, List.set_cons_zero, List.set_cons_succ])
                      (refine tk14 (v := ?_) (by kernel_rfl) (by kernel_rfl) (by kernel_rfl) (fun _ _ _ h => h) (Or.inl ⟨by rfl, ?_⟩) (by assumption) ?_; rotate_left; (focus (intro w hSw; (try dsimp only at hSw); go_simp; (try first | (rw [dif_pos (by omega)]; simp only [Result.andThen_ok]) | rw [if_pos (by omega)]); (try with_reducible rfl); done)); try simp only [Act.put, List.setIfInBounds_toArray, List.set_cons_zero, List.set_cons_succ])
                      (refine wpAnyH_ready (rs := [15]) (by kernel_rfl) (by simp) ?_; refine ar15 (fun K hK => ?_) AllReadyH.nil; go_simp)
                      (refine hK.out _ _ trivial (fun hHeld => ?_); clear hK K; try simp only [Act.put, List.setIfInBounds_toArray, List.set_cons_zero, List.set_cons_succ])
                      refine wpAnyH_done (by kernel_rfl) ?_ _
                      go_wp2
                      go_roundw
                      case rel => exact ⟨k + 1, q3, L, _, ps ++ [⟨L, L + a2, ky⟩], by omega, by go_num, rfl, hL0, hL1, hq3, by rw [List.length_append, HLN.out]; rfl, (fun y hy => by rcases List.mem_append.1 hy with h | h; exact HWF.out _ h; rw [List.mem_singleton.1 h]; exact ⟨by simp only; omega, by simp only; omega, by simp only; omega, by simp only; omega⟩), HS9.out, HRs2.out⟩
                      case measure => simp [intOf]; omega
                    · refine (HC8.out w7 HS7.out.rd).mono ?_
                      intro e w8 ht
                      obtain ⟨hf, rfl, hr⟩ := ht.yes
                      have HS8 : Hid (DaS w R g (g + 1) s x1 x2 w8 q3 (.slice ao ps.length cap) ps) := HS7.out.read hf hr
                      have c8 : w8.cell? ⟨g, 5, none⟩ = some (.slice ao ps.length cap) := HS8.out.hg.cell 5
                      have f8 := HS8.out.hg.free 5
                      have hgw : g < w8.heap.size := HS8.out.hg.lt
                      clear hf hr ht
                      (refine hK.out _ _ trivial (fun hHeld => ?_); clear hK K; try simp only [Act.put, List.setIfInBounds_toArray, List.set_cons_zero, List.set_cons_succ])
                      (refine tk11 (v := ?_) (by kernel_rfl) (by kernel_rfl) (by kernel_rfl) (fun _ _ _ h => h) (Or.inl ⟨by rfl, ?_⟩) (by assumption) ?_; rotate_left; (focus (intro w hSw; (try dsimp only at hSw); go_simp; (try first | (rw [dif_pos (by omega)]; simp only [Result.andThen_ok]) | rw [if_pos (by omega)]); (try with_reducible rfl); done)); try simp only [Act.put, List.setIfInBounds_toArray, List.set_cons_zero, List.set_cons_succ])
                      (refine wpAnyH_ready (rs := [1, 12]) (by kernel_rfl) (by simp) ?_; refine ar1 (fun K hK => ?_) (ar12 (fun K hK => ?_) AllReadyH.nil) <;> go_simp)
                      · (refine hK.out _ _ trivial (fun hHeld => ?_); clear hK K; try simp only [Act.put, List.setIfInBounds_toArray, List.set_cons_zero, List.set_cons_succ])
                        (refine wpAnyH_ready (rs := [12]) (by kernel_rfl) (by simp) ?_; refine ar12 (fun K hK => ?_) AllReadyH.nil; go_simp)
                        (refine hK.out _ _ trivial (fun hHeld => ?_); clear hK K; try simp only [Act.put, List.setIfInBounds_toArray, List.set_cons_zero, List.set_cons_succ])
                        (refine wpAnyH_ready (rs := [13]) (by kernel_rfl) (by simp) ?_; refine ar13 (fun K hK => ?_) AllReadyH.nil; rw [if_pos (by rfl)])
                        refine app_er_wp _ _ (by rfl) (g + 1) _ ps ⟨L, L + a2, ky⟩ HS8.out.own (by rfl) w8.heap.size rfl (by rfl) HLen.out (by omega) ?_
                        intro v' w' ho' hb'
                        obtain ⟨a', n', c', rfl⟩ := ho'.isSlice
                        have HS9 : Hid _ := HS8.out.app ho' hb'
                        have k9 : w'.cell? ⟨g, 5, none⟩ = some (.slice ao ps.length cap) := (HS8.out.hg.later hb' (by omega)).cell 5
                        have l9 := (HS8.out.hg.later hb' (by omega)).free 5
                        clear ho' hb'
                        (refine hK.out _ _ trivial (fun hHeld => ?_); clear hK K; try simp only [Act.put, List.setIfInBounds_toArray, List.set_cons_zero, List.set_cons_succ])
                        (refine tk14 (v := ?_) (by kernel_rfl) (by kernel_rfl) (by kernel_rfl) (fun _ _ _ h => h) (Or.inl ⟨by rfl, ?_⟩) (by assumption) ?_; rotate_left; (focus (intro w hSw; (try dsimp only at hSw); go_simp; (try first | (rw [dif_pos (by omega)]; simp only [Result.andThen_ok]) | rw [if_pos (by omega)]); (try with_reducible rfl); done)); try simp only [Act.put, List.setIfInBounds_toArray, List.set_cons_zero, List.set_cons_succ])
                        (refine wpAnyH_ready (rs := [15]) (by kernel_rfl) (by simp) ?_; refine ar15 (fun K hK => ?_) AllReadyH.nil; go_simp)
                        (refine hK.out _ _ trivial (fun hHeld => ?_); clear hK K; try simp only [Act.put, List.setIfInBounds_toArray, List.set_cons_zero, List.set_cons_succ])
                        refine wpAnyH_done (by kernel_rfl) ?_ _
                        go_wp2
                        go_roundw
                        case rel => exact ⟨k + 1, q3, L, _, ps ++ [⟨L, L + a2, ky⟩], by omega, by go_num, rfl, hL0, hL1, hq3, by rw [List.length_append, HLN.out]; rfl, (fun y hy => by rcases List.mem_append.1 hy with h | h; exact HWF.out _ h; rw [List.mem_singleton.1 h]; exact ⟨by simp only; omega, by simp only; omega, by simp only; omega, by simp only; omega⟩), HS9.out, HRs2.out⟩
                        case measure => simp [intOf]; omega
                      · (refine hK.out _ _ trivial (fun hHeld => ?_); clear hK K; try simp only [Act.put, List.setIfInBounds_toArray, List.set_cons_zero, List.set_cons_succ])
                        (refine wpAnyH_ready (rs := [1]) (by kernel_rfl) (by simp) ?_; refine ar1 (fun K hK => ?_) AllReadyH.nil; go_simp)
                        (refine hK.out _ _ trivial (fun hHeld => ?_); clear hK K; try simp only [Act.put, List.setIfInBounds_toArray, List.set_cons_zero, List.set_cons_succ])
                        (refine wpAnyH_ready (rs := [13]) (by kernel_rfl) (by simp) ?_; refine ar13 (fun K hK => ?_) AllReadyH.nil; rw [if_pos (by rfl)])
                        refine app_er_wp _ _ (by rfl) (g + 1) _ ps ⟨L, L + a2, ky⟩ HS8.out.own (by rfl) w8.heap.size rfl (by rfl) HLen.out (by omega) ?_
                        intro v' w' ho' hb'
                        obtain ⟨a', n', c', rfl⟩ := ho'.isSlice
                        have HS9 : Hid _ := HS8.out.app ho' hb'
                        have k9 : w'.cell? ⟨g, 5, none⟩ = some (.slice ao ps.length cap) := (HS8.out.hg.later hb' (by omega)).cell 5
                        have l9 := (HS8.out.hg.later hb' (by omega)).free 5
                        clear ho' hb'
                        (refine hK.out _ _ trivial (fun hHeld => ?_); clear hK K; try simp only [Act.put, List.setIfInBounds_toArray, List.set_cons_zero, List.set_cons_succ])
                        (refine tk14 (v := ?_) (by kernel_rfl) (by kernel_rfl) (by kernel_rfl) (fun _ _ _ h => h) (Or.inl ⟨by rfl, ?_⟩) (by assumption) ?_; rotate_left; (focus (intro w hSw; (try dsimp only at hSw); go_simp; (try first | (rw [dif_pos (by omega)]; simp only [Result.andThen_ok]) | rw [if_pos (by omega)]); (try with_reducible rfl); done)); try simp only [Act.put, List.setIfInBounds_toArray, List.set_cons_zero, List.set_cons_succ])
                        (refine wpAnyH_ready (rs := [15]) (by kernel_rfl) (by simp) ?_; refine ar15 (fun K hK => ?_) AllReadyH.nil; go_simp)
                        (refine hK.out _ _ trivial (fun hHeld => ?_); clear hK K; try simp only [Act.put, List.setIfInBounds_toArray, List.set_cons_zero, List.set_cons_succ])
                        refine wpAnyH_done (by kernel_rfl) ?_ _
                        go_wp2
                        go_roundw
                        case rel => exact ⟨k + 1, q3, L, _, ps ++ [⟨L, L + a2, ky⟩], by omega, by go_num, rfl, hL0, hL1, hq3, by rw [List.length_append, HLN.out]; rfl, (fun y hy => by rcases List.mem_append.1 hy with h | h; exact HWF.out _ h; rw [List.mem_singleton.1 h]; exact ⟨by simp only; omega, by simp only; omega, by simp only; omega, by simp only; omega⟩), HS9.out, HRs2.out⟩
                        case measure => simp [intOf]; omega
          · have hkn : k = n := by omega
            have HMM : Hid (rdD s = if p = s.size then some ((x1, x2), ps) else none) := by
              show _ = _
              rw [HM4.out, HRs.out, hkn, Nat.sub_self, restE_zero]
              rfl
            clear HRs HM4
            have HL : Hid (∀ _ : Unit, _) := fun _ => leftI R s p wr HSk.out.rd hsz
            by_cases hp : p < s.size
            · rw [decide_eq_true hp] at HL
              have HNo : Hid (rdD s = none) := HMM.out.trans (if_neg (by omega))
              go_wp2_with fail
              refine (HL.out ()).mono ?_
              rintro e w6 ⟨rfl, nq, rfl⟩
              go_wp2_with fail
              refine (giveUpI_yes 125 _).mono ?_
              rintro e w7 ⟨rfl, rfl⟩
              exact ⟨rfl, DoC.no (HSk.out.drewN nq).bel (HN.out HNo.out)⟩
            · rw [decide_eq_false hp] at HL
              have HYe : Hid (rdD s = some ((x1, x2), ps)) := HMM.out.trans (if_pos (by omega))
              go_wp2_with fail
              refine (HL.out ()).mono ?_
              rintro e w6 ⟨rfl, nq, rfl⟩
              have hS6 := HSk.out.drewN nq
              generalize wr.drewN nq = w6 at *
              have HS6 : Hid (DaS w R g (g + 1) s x1 x2 w6 p v ps) := hS6
              clear hS6 HSk HL HMM
              obtain ⟨ao, cap, rfl, -, -⟩ := HS6.out.own.slice
              have c0 : w6.cell? ⟨g, 0, none⟩ = some (.int .i64 x1) := HS6.out.hg.cell 0
              have c1 : w6.cell? ⟨g, 1, none⟩ = some (.int .u64 0) := HS6.out.hg.cell 1
              have c2 : w6.cell? ⟨g, 2, none⟩ = some (.int .u64 0) := HS6.out.hg.cell 2
              have c3 : w6.cell? ⟨g, 3, none⟩ = some (.slice none 0 0) := HS6.out.hg.cell 3
              have c4 : w6.cell? ⟨g, 4, none⟩ = some (.int .i64 x2) := HS6.out.hg.cell 4
              have c5 : w6.cell? ⟨g, 5, none⟩ = some (.slice ao ps.length cap) := HS6.out.hg.cell 5
              have HMb : Hid (∀ _ : Unit, _) := fun _ => mayBeDelta_any w6 x1 x2 0 0 none ao 0 0 cap ps HS6.out.own.sees
              go_wp2_with fail
              refine (HMb.out ()).mono ?_
              rintro e w7 ⟨c, rfl, hiff, hb7⟩
              have HIF : Hid (c = true ↔ mayD x1 x2 ps) := hiff
              have HB7 : Hid (Below w6.heap.size w6 w7) := hb7
              clear hiff hb7 HMb c0 c1 c2 c3 c4 c5
              cases c
              · have HNm : Hid (¬ mayD x1 x2 ps) := fun h => by have := HIF.out.2 h; cases this
                go_wp2_with fail
                refine (giveUpI_yes 125 _).mono ?_
                rintro e w8 ⟨rfl, rfl⟩
                refine ⟨rfl, DoC.no (HS6.out.bel.trans (HB7.out.mono HS6.out.bel.size)) (.inr ⟨HOP.out, rfl, fun a1 a2 a4 h => ?_⟩)⟩
                rw [HSS.out, HYe.out] at h
                injection h with h
                injection h with ha hd
                injection ha with ha hb
                subst ha hb hd
                exact HNm.out
              · have HYm : Hid (mayD x1 x2 ps) := HIF.out.1 rfl
                go_wp2_with fail
                refine (giveUpI_no 125 _).mono ?_
                rintro e w8 ⟨rfl, rfl⟩
                have HG8 : Hid (Fp6 w8 g (.int .i64 x1) (.int .u64 0) (.int .u64 0) (.slice none 0 0) (.int .i64 x2) (.slice ao ps.length cap)) := HS6.out.hg.later HB7.out HS6.out.hg.lt
                have HZ8 : Hid (Fp6 w8 w.heap.size (.int .i64 0) (.int .u64 0) (.int .u64 0) (.slice none 0 0) (.int .i64 0) (.slice none 0 0)) := HS6.out.z.later HB7.out HS6.out.z.lt
                have HO8 : Hid (ownE w8 (g + 1) (.slice ao ps.length cap) ps) := HS6.out.own.later HB7.out
                have HB8 : Hid (Below w.heap.size w w8) := HS6.out.bel.trans (HB7.out.mono HS6.out.bel.size)
                have hzg := HS6.out.r2
                have hzn : w.heap.size ≠ g := by omega
                have c0 : w8.cell? ⟨g, 0, none⟩ = some (.int .i64 x1) := HG8.out.cell 0
                have c1 : w8.cell? ⟨g, 1, none⟩ = some (.int .u64 0) := HG8.out.cell 1
                have c2 : w8.cell? ⟨g, 2, none⟩ = some (.int .u64 0) := HG8.out.cell 2
                have c3 : w8.cell? ⟨g, 3, none⟩ = some (.slice none 0 0) := HG8.out.cell 3
                have c4 : w8.cell? ⟨g, 4, none⟩ = some (.int .i64 x2) := HG8.out.cell 4
                have c5 : w8.cell? ⟨g, 5, none⟩ = some (.slice ao ps.length cap) := HG8.out.cell 5
                have z0 : w8.cell? ⟨w.heap.size, 0, none⟩ = some (.int .i64 0) := HZ8.out.cell 0
                have z1 : w8.cell? ⟨w.heap.size, 1, none⟩ = some (.int .u64 0) := HZ8.out.cell 1
                have z2 : w8.cell? ⟨w.heap.size, 2, none⟩ = some (.int .u64 0) := HZ8.out.cell 2
                have z3 : w8.cell? ⟨w.heap.size, 3, none⟩ = some (.slice none 0 0) := HZ8.out.cell 3
                have z4 : w8.cell? ⟨w.heap.size, 4, none⟩ = some (.int .i64 0) := HZ8.out.cell 4
                have z5 : w8.cell? ⟨w.heap.size, 5, none⟩ = some (.slice none 0 0) := HZ8.out.cell 5
                have o0 := HZ8.out.free 0
                have o1 := HZ8.out.free 1
                have o2 := HZ8.out.free 2
                have o3 := HZ8.out.free 3
                have o4 := HZ8.out.free 4
                have o5 := HZ8.out.free 5
                go_wp2
                refine bodyPost_ret (ret_fp rfl _ _ _ _ _ _ _ _ w.heap.size (by rfl) (HZ8.out.setAll _ _ _ _ _ _)) rfl ⟨?_, .inl ⟨x1, x2, ps, _, ⟨HOP.out, by rw [HSS.out]; exact HYe.out, HYm.out, HWF.out⟩, rfl, ?_⟩⟩
                · exact (((((HB8.out.setCell (p := ⟨w.heap.size, 0, none⟩) (Nat.le_refl _) _).setCell (p := ⟨w.heap.size, 1, none⟩) (Nat.le_refl _) _).setCell (p := ⟨w.heap.size, 2, none⟩) (Nat.le_refl _) _).setCell (p := ⟨w.heap.size, 3, none⟩) (Nat.le_refl _) _).setCell (p := ⟨w.heap.size, 4, none⟩) (Nat.le_refl _) _).setCell (p := ⟨w.heap.size, 5, none⟩) (Nat.le_refl _) _
                · refine (HO8.out.same fun k hk hB => ?_).mono (by omega)
                  have hne : k ≠ w.heap.size := by omega
                  exact (Below.heap_setCell _ _ _ k hne).trans ((Below.heap_setCell _ _ _ k hne).trans ((Below.heap_setCell _ _ _ k hne).trans ((Below.heap_setCell _ _ _ k hne).trans ((Below.heap_setCell _ _ _ k hne).trans (Below.heap_setCell _ _ _ k hne)))))
end Go.Proofs.YtbfjnidpjmhfiaaGreatDoor

namespace Go.Proofs.YtbfjnidpjmhfiaaGreatDoor
set_option linter.unusedSimpArgs false
open Go.ChangeShapes Go.WideShapes Go.ChangeAt Go.RowKit
set_option linter.unusedVariables false
set_option maxRecDepth 100000
theorem Fp6.drew {W : World} {g : Nat} {a b c d e f : Value} (h : Fp6 W g a b c d e f) : Fp6 W.drew g a b c d e f := h
set_option maxHeartbeats 1600000 in
theorem catchDe (c : Int) (bC bE : Nat) (a b d f x y z : Value) (older : List PanicEntry) (w : World)
    (hC : Fp6 w bC a b d f x y) (hE : w.cell? ⟨bE, 0, none⟩ = some z) (fE : w.frozen? ⟨bE, 0, none⟩ = false) (n5 : bC ≠ bE) :
    CallsD Tryz.prog 40 #[.pointer (some ⟨bC, 0, none⟩), .pointer (some ⟨bE, 0, none⟩)] (.panicking ({ v := .iface 37 (.int .i64 c), recovered := false } :: older)) w fun e u' w' =>
      e = .returned (.tuple #[]) ∧ u' = .panicking ({ v := .iface 37 (.int .i64 c), recovered := true } :: older) ∧ Fp6 w' bC (.int .i64 0) (.int .u64 0) (.int .u64 0) (.slice none 0 0) (.int .i64 0) (.slice none 0 0) ∧ w'.cell? ⟨bE, 0, none⟩ = some (.int .i64 c) ∧ (∀ B, B ≤ bC → B ≤ bE → Below B w w') := by
  have k0 : w.cell? ⟨bC, 0, none⟩ = some a := hC.cell 0
  have k1 : w.cell? ⟨bC, 1, none⟩ = some b := hC.cell 1
  have k2 : w.cell? ⟨bC, 2, none⟩ = some d := hC.cell 2
  have k3 : w.cell? ⟨bC, 3, none⟩ = some f := hC.cell 3
  have k4 : w.cell? ⟨bC, 4, none⟩ = some x := hC.cell 4
  have k5 : w.cell? ⟨bC, 5, none⟩ = some y := hC.cell 5
  have f0 := hC.free 0
  have f1 := hC.free 1
  have f2 := hC.free 2
  have f3 := hC.free 3
  have f4 := hC.free 4
  have f5 := hC.free 5
  have HC : Hid (Fp6 w bC a b d f x y) := hC
  clear hC
  refine callsD_of_wpS Tryz.func40 rfl fun c₀ cs hu => ?_
  apply wpS_seq
  apply wpS_region
  simp [wpOpsS, go_sem, recoverD, hu, Tryz.ntmps40, Exit.thenS]
  refine wpS_of_wp ?_
  simp only [Array.replicate, List.replicate, List.setIfInBounds_toArray, List.set_cons_zero, List.set_cons_succ, List.append_toArray, List.cons_append, List.nil_append]
  go_wp2
  have hta := assert_errno
  go_region
  change bodyPostS _ _ _ _ _ _ _ _ _
  refine ⟨rfl, _, rfl, _, results_none rfl _ _ _, rfl, rfl, ?_, ?_, ?_⟩
  · have h1 := HC.out.setAll (.int .i64 0) (.int .u64 0) (.int .u64 0) (.slice none 0 0) (.int .i64 0) (.slice none 0 0)
    have h2 := h1.other (p := ⟨bE, 0, none⟩) (.int .i64 c) n5
    exact h2.drew
  · simp [go_sem, hE]
  · intro B h1 h3
    exact ((((((((Below.refl _ _).setCell h1 _).setCell h1 _).setCell h1 _).setCell h1 _).setCell h1 _).setCell h1 _).setCell h3 _) |>.drew
theorem idleDe (pA pV : Addr) (w : World) :
    CallsD Tryz.prog 40 #[.pointer (some pA), .pointer (some pV)] .returning w fun e u' w' => e = .returned (.tuple #[]) ∧ u' = .returning ∧ w' = w := by
  refine callsD_of_wpS Tryz.func40 rfl fun c₀ cs hu => ?_
  apply wpS_seq
  apply wpS_region
  simp [wpOpsS, go_sem, recoverD, hu, Tryz.ntmps40, Exit.thenS]
  refine wpS_of_wp ?_
  simp only [Array.replicate, List.replicate, List.setIfInBounds_toArray, List.set_cons_zero, List.set_cons_succ, List.append_toArray, List.cons_append, List.nil_append]
  go_wp2
  change bodyPostS _ _ _ _ _ _ _ _ _
  cases c₀
  simp only at hu
  subst hu
  exact ⟨rfl, _, rfl, _, results_none rfl _ _ _, rfl, rfl, rfl⟩
theorem ret_de2 {fn : Func} {p u : Tmp} (h : fn.results = #[.cell p 26, .cell u 37]) (tmps : Array Value) (w : World) (a b d : Int) (f : Value) (x : Int) (y : Value) (c : Int) (g gu : Nat) (hp : tmps.getD p undef = .pointer (some ⟨g, 0, none⟩)) (hu : tmps.getD u undef = .pointer (some ⟨gu, 0, none⟩))
    (hg : Fp6 w g (.int .i64 a) (.int .u64 b) (.int .u64 d) f (.int .i64 x) y) (cu : w.cell? ⟨gu, 0, none⟩ = some (.int .i64 c)) :
    (results fn tmps).run Tryz.prog w = .ok (.tuple #[.agg #[.int .i64 a, .int .u64 b, .int .u64 d, f, .int .i64 x, y], .int .i64 c]) w := by
  have hp' : tmps[p]?.getD undef = .pointer (some ⟨g, 0, none⟩) := by simpa using hp
  have hu' : tmps[u]?.getD undef = .pointer (some ⟨gu, 0, none⟩) := by simpa using hu
  have q0 : w.cell? ⟨g, 0, none⟩ = some (.int .i64 a) := hg.cell 0
  have q1 : w.cell? ⟨g, 1, none⟩ = some (.int .u64 b) := hg.cell 1
  have q2 : w.cell? ⟨g, 2, none⟩ = some (.int .u64 d) := hg.cell 2
  have q3 : w.cell? ⟨g, 3, none⟩ = some f := hg.cell 3
  have q4 : w.cell? ⟨g, 4, none⟩ = some (.int .i64 x) := hg.cell 4
  have q5 : w.cell? ⟨g, 5, none⟩ = some y := hg.cell 5
  simp [results, h, hp', hu', asAddr, go_sem, q0, q1, q2, q3, q4, q5, cu]
/-- What DecodeDelta answers. -/
def DdC (w : World) (b : ByteArray) (e : Ending) (w' : World) : Prop :=
  Below w.heap.size w w' ∧ ((∃ id gen ps v, DoYes b id gen ps ∧ e = .returned (.tuple #[.agg #[.int .i64 id, .int .u64 0, .int .u64 0, .slice none 0 0, .int .i64 gen, v], .int .i64 0]) ∧ ownE w' w.heap.size v ps) ∨ ∃ c, DoNo b c ∧ e = .returned (.tuple #[.agg #[.int .i64 0, .int .u64 0, .int .u64 0, .slice none 0 0, .int .i64 0, .slice none 0 0], .int .i64 c]))
set_option maxHeartbeats 3200000 in
theorem decDel_any (w : World) (b : ByteArray) (hs : b.size ≤ 1125899906842624) (hT : HalfAt w) : Calls Tryz.prog 18 #[.string b] w (DdC w b) := by
  have hmf : ∀ (fn : Fn) (first cap : Array Value) (w : World), (Instr.makeFunc fn first cap).run Tryz.prog w = .ok (.func fn first cap) w := fun _ _ _ _ => rfl
  have HBw : Hid (Below w.heap.size w ((w.alloc (.cells #[.int .i64 0, .int .u64 0, .int .u64 0, .slice none 0 0, .int .i64 0, .slice none 0 0] 26)).alloc (.cells #[.int .i64 0] 37))) := ((Below.refl _ _).alloc (Nat.le_refl _) _).alloc (by simp) _
  have HZ : Hid (Fp6 ((w.alloc (.cells #[.int .i64 0, .int .u64 0, .int .u64 0, .slice none 0 0, .int .i64 0, .slice none 0 0] 26)).alloc (.cells #[.int .i64 0] 37)) w.heap.size (.int .i64 0) (.int .u64 0) (.int .u64 0) (.slice none 0 0) (.int .i64 0) (.slice none 0 0)) := (Below.heap_alloc _ _ _ (by simp)).trans (heap_alloc_new w _)
  have hE : ((w.alloc (.cells #[.int .i64 0, .int .u64 0, .int .u64 0, .slice none 0 0, .int .i64 0, .slice none 0 0] 26)).alloc (.cells #[.int .i64 0] 37)).cell? ⟨w.heap.size + 1, 0, none⟩ = some (.int .i64 0) := by simp [go_sem]
  have fE : ((w.alloc (.cells #[.int .i64 0, .int .u64 0, .int .u64 0, .slice none 0 0, .int .i64 0, .slice none 0 0] 26)).alloc (.cells #[.int .i64 0] 37)).frozen? ⟨w.heap.size + 1, 0, none⟩ = false := by simp [go_sem]
  have hsz : ((w.alloc (.cells #[.int .i64 0, .int .u64 0, .int .u64 0, .slice none 0 0, .int .i64 0, .slice none 0 0] 26)).alloc (.cells #[.int .i64 0] 37)).heap.size = w.heap.size + 2 := by simp
  have HT : Hid (HalfAt ((w.alloc (.cells #[.int .i64 0, .int .u64 0, .int .u64 0, .slice none 0 0, .int .i64 0, .slice none 0 0] 26)).alloc (.cells #[.int .i64 0] 37))) := hT.later HBw.out
  have HE : Hid _ := hE
  have HFE : Hid _ := fE
  clear hE fE hT
  go_enter_defers Tryz.func18, Tryz.ntmps18
  go_wp2_with fail
  generalize (w.alloc (.cells #[.int .i64 0, .int .u64 0, .int .u64 0, .slice none 0 0, .int .i64 0, .slice none 0 0] 26)).alloc (.cells #[.int .i64 0] 37) = W2 at *
  refine (deltaOf_any W2 b hs HT.out).mono ?_
  rintro e w3 ⟨hb, hm⟩
  have HZ3 : Hid (Fp6 w3 w.heap.size (.int .i64 0) (.int .u64 0) (.int .u64 0) (.slice none 0 0) (.int .i64 0) (.slice none 0 0)) := HZ.out.later hb HZ.out.lt
  have hE3 := (hb.cell (p := ⟨w.heap.size + 1, 0, none⟩) (by simp only; omega)).trans HE.out
  have fE3 := (hb.frozen (p := ⟨w.heap.size + 1, 0, none⟩) (by simp only; omega)).trans HFE.out
  have HB3 : Hid (Below w.heap.size w w3) := HBw.out.trans (hb.mono HBw.out.size)
  clear hb HE HFE HBw HZ HT
  rcases hm with ⟨id, gen, ps, v, hy, rfl, hown⟩ | ⟨c, hn, rfl⟩
  · have HY : Hid (DoYes b id gen ps) := hy
    have HO : Hid (ownE w3 W2.heap.size v ps) := hown
    obtain ⟨a', n', c', rfl⟩ := hown.isSlice
    clear hown hy
    have z0 : w3.cell? ⟨w.heap.size, 0, none⟩ = some (.int .i64 0) := HZ3.out.cell 0
    have z1 : w3.cell? ⟨w.heap.size, 1, none⟩ = some (.int .u64 0) := HZ3.out.cell 1
    have z2 : w3.cell? ⟨w.heap.size, 2, none⟩ = some (.int .u64 0) := HZ3.out.cell 2
    have z3 : w3.cell? ⟨w.heap.size, 3, none⟩ = some (.slice none 0 0) := HZ3.out.cell 3
    have z4 : w3.cell? ⟨w.heap.size, 4, none⟩ = some (.int .i64 0) := HZ3.out.cell 4
    have z5 : w3.cell? ⟨w.heap.size, 5, none⟩ = some (.slice none 0 0) := HZ3.out.cell 5
    have o0 := HZ3.out.free 0
    have o1 := HZ3.out.free 1
    have o2 := HZ3.out.free 2
    have o3 := HZ3.out.free 3
    have o4 := HZ3.out.free 4
    have o5 := HZ3.out.free 5
    go_wp2
    refine leaves_cons (f := 40) (args := #[.pointer (some ⟨w.heap.size, 0, none⟩), .pointer (some ⟨w.heap.size + 1, 0, none⟩)]) (by simp) (by simp [go_sem]) ?_
    refine (idleDe _ _ _).mono ?_
    rintro e u' w4 ⟨rfl, rfl, rfl⟩
    have h1 := (HZ3.out.setAll (.int .i64 id) (.int .u64 0) (.int .u64 0) (.slice none 0 0) (.int .i64 gen) (.slice a' n' c')).other (p := ⟨w.heap.size + 1, 0, none⟩) (.int .i64 0) (by simp only; omega)
    refine ⟨.tuple #[.agg #[.int .i64 id, .int .u64 0, .int .u64 0, .slice none 0 0, .int .i64 gen, .slice a' n' c'], .int .i64 0], ret_de2 rfl _ _ _ _ _ _ _ _ _ _ _ (by rfl) (by rfl) h1 (by simp [go_sem, hE3]), ?_, .inl ⟨id, gen, ps, _, HY.out, rfl, ?_⟩⟩
    · exact ((((((HB3.out.setCell (p := ⟨w.heap.size, 0, none⟩) (Nat.le_refl _) _).setCell (p := ⟨w.heap.size, 1, none⟩) (Nat.le_refl _) _).setCell (p := ⟨w.heap.size, 2, none⟩) (Nat.le_refl _) _).setCell (p := ⟨w.heap.size, 3, none⟩) (Nat.le_refl _) _).setCell (p := ⟨w.heap.size, 4, none⟩) (Nat.le_refl _) _).setCell (p := ⟨w.heap.size, 5, none⟩) (Nat.le_refl _) _).setCell (p := ⟨w.heap.size + 1, 0, none⟩) (by simp only; omega) _
    · refine (HO.out.same fun k hk hB => ?_).mono (by omega)
      have hne : k ≠ w.heap.size := by omega
      have hne2 : k ≠ w.heap.size + 1 := by omega
      exact (Below.heap_setCell _ _ _ k hne2).trans ((Below.heap_setCell _ _ _ k hne).trans ((Below.heap_setCell _ _ _ k hne).trans ((Below.heap_setCell _ _ _ k hne).trans ((Below.heap_setCell _ _ _ k hne).trans ((Below.heap_setCell _ _ _ k hne).trans (Below.heap_setCell _ _ _ k hne))))))
  · refine leaves_cons (f := 40) (args := #[.pointer (some ⟨w.heap.size, 0, none⟩), .pointer (some ⟨w.heap.size + 1, 0, none⟩)]) (by simp) (by simp [go_sem]) ?_
    refine (catchDe c _ _ _ _ _ _ _ _ _ [] _ HZ3.out hE3 fE3 (by omega)).mono ?_
    rintro e u' w4 ⟨rfl, rfl, dV, dE, hb2⟩
    refine ⟨.tuple #[.agg #[.int .i64 0, .int .u64 0, .int .u64 0, .slice none 0 0, .int .i64 0, .slice none 0 0], .int .i64 c], ret_de2 rfl _ _ _ _ _ _ _ _ _ _ _ (by rfl) (by rfl) dV dE, ?_, .inr ⟨c, hn, rfl⟩⟩
    exact HB3.out.trans (hb2 _ (by omega) (by omega))
end Go.Proofs.YtbfjnidpjmhfiaaGreatDoor

namespace Go.Proofs.YtbfjnidpjmhfiaaGreatDoor
set_option linter.unusedSimpArgs false
open Go.ChangeShapes Go.WideShapes Go.ChangeAt Go.RowKit
set_option linter.unusedVariables false
set_option maxRecDepth 100000
theorem encE_bytes {last : Int} {p : ER} (hm : mayE p) (hl : last ≤ p.beg) (h0 : 0 ≤ last) : ∀ x ∈ encE last p, 0 ≤ x ∧ x < 256 := by
  obtain ⟨m1, m2, m3, m4, m5⟩ := hm
  unfold encE
  exact bytes_app (uvB_bytes _ (by omega) (by omega)) (bytes_app (uvB_bytes _ (by omega) (by omega)) (blB_bytes _ (by omega)))
theorem encEs_bytes : ∀ (ps : List ER) (last : Int), 0 ≤ last → okEs last ps → ∀ x ∈ encEs last ps, 0 ≤ x ∧ x < 256
  | [], _, _, _, x, h => by cases h
  | p :: ps, last, h0, ⟨o1, o2, o3⟩, x, h => bytes_app (encE_bytes o2 o1 h0) (encEs_bytes ps p.beg (by have := o2.1; omega) o3) x h
theorem encD_bytes {id gen : Int} {ps : List ER} (hm : mayD id gen ps) : ∀ x ∈ encD id gen ps, 0 ≤ x ∧ x < 256 := by
  have hf := mayD_from hm
  obtain ⟨⟨g1, g2⟩, ⟨n1, n2⟩, ⟨l0, l1⟩, _⟩ := hm
  unfold encD
  exact bytes_app (uvB_bytes _ (by omega) (by omega)) (bytes_app (uvB_bytes _ (by omega) (by omega)) (bytes_app (uvB_bytes _ (by omega) (by omega)) (encEs_bytes ps 0 (by omega) hf)))
theorem mgDl_bytes : ∀ x ∈ mgDl, 0 ≤ x ∧ x < 256 := by decide
theorem mgDB_str : mgDB = strOfNums mgDl := by decide
theorem DoYes.seal {b : ByteArray} {id gen : Int} {ps : List ER} (h : DoYes b id gen ps) : sealM mgDl (encD id gen ps) = b := by
  obtain ⟨h0, hr, hm, hw⟩ := h
  obtain ⟨h12, hg, hc⟩ := opE_parts h0
  have hsz : (b.extract 0 (b.size - 4)).size = b.size - 4 := by rw [ByteArray.size_extract]; omega
  obtain ⟨f1, f2, -⟩ := rdD_form (by omega) hr
  have e1 := has_ext (encD_bytes hm) (by omega) f1
  rw [← f2] at e1
  have e2 : (b.extract 0 (b.size - 4)).extract 0 8 = strOfNums mgDl := by
    rw [← mgDB_str, ← hg, ByteArray.extract_extract]
    congr 1
    omega
  have e3 : b.extract 0 (b.size - 4) = strOfNums (mgDl ++ encD id gen ps) := by
    rw [strApp, ← e1, ← e2]
    exact split_at _ 8 (by omega)
  have e4 := (fx4_iff b (b.size - 4) _ (by omega) (by unfold crN; omega)).1 hc
  unfold sealM
  rw [← e3, e4]
  exact (split_at b (b.size - 4) (by omega)).symm
theorem sealD_parts {b : ByteArray} {l : List Int} (h : sealM mgDl l = b) : b.size = 12 + l.length ∧ b.extract 0 (b.size - 4) = strOfNums (mgDl ++ l) := by
  have hz : (strOfNums (mgDl ++ l)).size = 8 + l.length := by rw [strOfNums_size, List.length_append]; rfl
  have hb : b.size = 12 + l.length := by
    rw [← h]
    unfold sealM
    rw [ByteArray.size_append, hz, strOfNums_size, fxB_len]
    omega
  refine ⟨hb, ?_⟩
  rw [hb, show 12 + l.length - 4 = (strOfNums (mgDl ++ l)).size from by omega, ← h]
  unfold sealM
  exact ByteArray.extract_append_eq_left rfl
theorem sealD_has {b : ByteArray} {l : List Int} (hl : ∀ x ∈ l, 0 ≤ x ∧ x < 256) (h : sealM mgDl l = b) : HasAt (b.extract 0 (b.size - 4)) 8 l := by
  rw [(sealD_parts h).2]
  intro i hi
  obtain ⟨g, hg⟩ := nums_get (mgDl ++ l) (bytes_app mgDl_bytes hl) (8 + i) (by rw [List.length_append]; show _ < 8 + _; omega)
  refine ⟨g, ?_⟩
  rw [hg, List.getElem_append_right (by show 8 ≤ _; omega)]
  congr 1
  show 8 + i - 8 = i
  omega
theorem DoYes.of {b : ByteArray} {id gen : Int} {ps : List ER} (h0 : opE b mgDB = 0) (hm : mayD id gen ps) (hw : ∀ p ∈ ps, p.wf) (h : sealM mgDl (encD id gen ps) = b) : DoYes b id gen ps := by
  have hp := (sealD_parts h).1
  have hsz : (b.extract 0 (b.size - 4)).size = b.size - 4 := by rw [ByteArray.size_extract]; omega
  exact ⟨h0, rdD_back (by omega) hm (sealD_has (encD_bytes hm) h) (by omega), hm, hw⟩
theorem DoYes.has {b : ByteArray} {id gen : Int} {ps : List ER} (h : DoYes b id gen ps) : HasAt (b.extract 8 (b.size - 4)) 0 (encD id gen ps) := by
  have hp := (sealD_parts h.seal).1
  exact has_shift (by omega) (sealD_has (encD_bytes h.2.2.1) h.seal) (by omega)
end Go.Proofs.YtbfjnidpjmhfiaaGreatDoor
