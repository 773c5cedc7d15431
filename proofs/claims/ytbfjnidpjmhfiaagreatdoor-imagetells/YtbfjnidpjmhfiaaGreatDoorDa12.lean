import Derived.Test.YtbfjnidpjmhfiaaGreatDoorDa3
import Derived.Test.YtbfjnidpjmhfiaaGreatDoorDe20
import Derived.Defers
import Derived.Recover
import Derived.Laws.Pointers
import Derived.Test.YtbfjnidpjmhfiaaGreatDoorMfR
namespace Go.Proofs.YtbfjnidpjmhfiaaGreatDoor
set_option linter.unusedSimpArgs false
open Go.ChangeShapes Go.WideShapes Go.ChangeAt Go.RowKit
set_option linter.unusedVariables false
set_option maxRecDepth 100000
/-- What is read of the data, when some of them are read. -/
def restT (s : ByteArray) (hi : Int) (done : List DT) (m p : Nat) (last : Int) : Option (List DT × Nat) := (rdDts s hi m p last).map fun y => (done ++ y.1, y.2)
theorem restT_zero (s : ByteArray) (hi : Int) (done : List DT) (p : Nat) (last : Int) : restT s hi done 0 p last = some (done, p) := by simp [restT, rdDts]
theorem restT_no {s : ByteArray} {hi : Int} {done : List DT} {m p : Nat} {last : Int} (h : rdDt s hi p last = none) : restT s hi done (m + 1) p last = none := by simp [restT, rdDts, h]
theorem restT_yes {s : ByteArray} {hi : Int} {done : List DT} {m p q : Nat} {last : Int} {v : DT} (h : rdDt s hi p last = some (v, q)) : restT s hi done (m + 1) p last = restT s hi (done ++ [v]) m q v.beg := by
  unfold restT
  conv => lhs; unfold rdDts
  rw [h]
  simp only [Option.bind_some]
  cases rdDts s hi m q v.beg with
  | none => rfl
  | some x => simp
def mgAB : ByteArray := ⟨#[83, 84, 82, 65, 68, 65, 84, 49]⟩
/-- How DecodeData ends when it does not read a data file. -/
def AoNo (b : ByteArray) (c : Int) : Prop := (opE b mgAB ≠ 0 ∧ c = opE b mgAB) ∨ (opE b mgAB = 0 ∧ c = 125 ∧ ∀ id lo hi ps, rdA (b.extract 0 (b.size - 4)) = some ((id, lo, hi), ps) → ¬ mayA id lo hi ps)
/-- What a data file is read as. -/
def AoYes (b : ByteArray) (id lo hi : Int) (ps : List DT) : Prop := opE b mgAB = 0 ∧ rdA (b.extract 0 (b.size - 4)) = some ((id, lo, hi), ps) ∧ mayA id lo hi ps ∧ (∀ p ∈ ps, p.wf) ∧ 0 ≤ lo
/-- A data file is read, its data new; or the reading gives up. -/
def AoC (w : World) (b : ByteArray) (e : Ending) (w' : World) : Prop :=
  Below w.heap.size w w' ∧ ((∃ id lo hi ps v, AoYes b id lo hi ps ∧ e = .returned (.agg #[.int .i64 id, .int .u64 lo, .int .u64 hi, v, .int .i64 0, .slice none 0 0]) ∧ ownT w' w.heap.size v ps) ∨ ∃ c, AoNo b c ∧ e = oops c)
theorem AoC.no {w w' : World} {b : ByteArray} {c : Int} (hb : Below w.heap.size w w') (h : AoNo b c) : AoC w b (oops c) w' := ⟨hb, .inr ⟨c, h, rfl⟩⟩
theorem AoNo.none {b : ByteArray} (h : opE b mgAB = 0) (hn : rdA (b.extract 0 (b.size - 4)) = none) : AoNo b 125 := .inr ⟨h, rfl, fun _ _ _ _ h2 => by rw [hn] at h2; cases h2⟩
theorem rdA_n1 {s : ByteArray} (h : rdU s 8 99999999 = none) : rdA s = none := by rw [rdA, h]; rfl
theorem rdA_n2 {s : ByteArray} {x1 : Int} {p1 : Nat} (h1 : rdU s 8 99999999 = some (x1, p1)) (h : rdU s p1 4611686018427387903 = none) : rdA s = none := by rw [rdA, h1]; simp only [Option.bind_some]; rw [h]; rfl
theorem rdA_n3 {s : ByteArray} {x1 x2 : Int} {p1 p2 : Nat} (h1 : rdU s 8 99999999 = some (x1, p1)) (h2 : rdU s p1 4611686018427387903 = some (x2, p2)) (h : rdU s p2 (4611686018427387903 - x2) = none) : rdA s = none := by rw [rdA, h1]; simp only [Option.bind_some]; rw [h2]; simp only [Option.bind_some]; rw [h]; rfl
theorem rdA_n4 {s : ByteArray} {x1 x2 x3 : Int} {p1 p2 p3 : Nat} (h1 : rdU s 8 99999999 = some (x1, p1)) (h2 : rdU s p1 4611686018427387903 = some (x2, p2)) (h3 : rdU s p2 (4611686018427387903 - x2) = some (x3, p3)) (h : rdU s p3 65536 = none) : rdA s = none := by rw [rdA, h1]; simp only [Option.bind_some]; rw [h2]; simp only [Option.bind_some]; rw [h3]; simp only [Option.bind_some]; rw [h]; rfl
theorem rdA_5 {s : ByteArray} {x1 x2 x3 : Int} {n p1 p2 p3 p4 : Nat} (h1 : rdU s 8 99999999 = some (x1, p1)) (h2 : rdU s p1 4611686018427387903 = some (x2, p2)) (h3 : rdU s p2 (4611686018427387903 - x2) = some (x3, p3)) (h4 : rdU s p3 65536 = some ((n : Int), p4)) : rdA s = (restT s (x2 + x3) [] n p4 x2).bind fun y => if y.2 = s.size then some ((x1, x2, x2 + x3), y.1) else none := by
  rw [rdA, h1]; simp only [Option.bind_some]; rw [h2]; simp only [Option.bind_some]; rw [h3]; simp only [Option.bind_some]; rw [h4]; simp only [Option.bind_some, Int.toNat_natCast]
  unfold restT
  simp
theorem TookI.yesA {R : Nat} {s : ByteArray} {w w' : World} {k : IntKind} {x : Int} {q : Nat} {e : Ending} (h : TookI R s w k (some (x, q)) e w') : Fr R w w' ∧ e = .returned (.int k x) ∧ RdI w' R s q := by
  obtain ⟨hf, ⟨x', q', hxx, he, hr⟩ | ⟨hxx, _⟩⟩ := h
  · injection hxx with hxx
    injection hxx with ha hb
    subst ha hb
    exact ⟨hf, he, hr⟩
  · cases hxx
theorem TookI.noA {R : Nat} {s : ByteArray} {w w' : World} {k : IntKind} {e : Ending} (h : TookI R s w k none e w') : Fr R w w' ∧ e = oops 125 := by
  obtain ⟨hf, ⟨x', q', hxx, he, hr⟩ | ⟨_, he⟩⟩ := h
  · cases hxx
  · exact ⟨hf, he⟩
theorem app_dt_wp {wr : World} {o : Oper} {a : Act} {K : Act → World → Prop} {Q : Exit → Act → World → Prop} (s x : Operand)
    (ho : o.op = .call { callee := .builtin .append, args := #[s, x], argTypes := #[23, 23] })
    (B : Nat) (v : Value) (vs : List DT) (c : DT) (hown : ownT wr B v vs) (hs : a.eval s = v) (g : Nat) (hg : g = wr.heap.size) (hx : a.eval x = .slice (some ⟨g, 0, none⟩) 1 1)
    (hlen : (vs.length + 1) * 40 ≤ 140737488355328) (hB : B ≤ wr.heap.size)
    (h : ∀ v' w', ownT w' B v' (vs ++ [c]) → Below B wr w' → K (a.put o.dst v') w') :
    o.wp Tryz.prog a (wr.alloc (.cells #[.int .u64 c.beg, .string c.key, .string c.data] 31)) K Q := by
  subst hg
  obtain ⟨i0, hi, hz0, hz1, hz2⟩ := info_parts infoT
  refine wp_append_own _ s x 23 ho B 31 i0 _ 3 40 Tryz.underlying23 hi hz0 hz1 hz2 rfl (by decide) v vs.length _ hs (World.ownsRow.alloc hown _)
    ⟨wr.heap.size, 0, none⟩ 1 1 (cellT c) hx rfl ?_ ?_ (by unfold maxLen; omega) (by omega) (by simp; omega) ?_
  · intro j u hj
    match j, hj with
    | 0, hj => simp [cellT] at hj; subst hj; simp [Addr.add]
    | 1, hj => simp [cellT] at hj; subst hj; simp [Addr.add]
    | 2, hj => simp [cellT] at hj; subst hj; simp [Addr.add]
  · intro u hu; exact cellsT_one [c] u (by simpa [cellsT] using hu)
  · intro v' w' hown' hgrow _
    refine h v' w' ?_ ?_
    · have : (vs ++ [c]).length = vs.length + 1 := by simp
      unfold ownT; rw [this, cellsT_app, show cellsT [c] = cellT c from by simp [cellsT]]; exact hown'
    · exact ((Below.refl _ _).alloc hB _).grown hgrow (by simp; omega) (fun k hk => (World.ownsRow.lt hown k hk).1)
theorem Fp6.set2 {W : World} {g : Nat} {a b c d e f : Value} (h : Fp6 W g a b c d e f) (v : Value) : Fp6 (W.setCell ⟨g, 2, none⟩ v) g a b v d e f := by
  unfold Fp6 at h ⊢
  simp [World.setCell, Array.getElem?_modify, h]
/-- What stands while a data file is read. -/
structure AoS (w : World) (R g B : Nat) (s : ByteArray) (id lo hi : Int) (W : World) (p : Nat) (v : Value) (ps : List DT) : Prop where
  bel : Below w.heap.size w W
  z : Fp6 W w.heap.size (.int .i64 0) (.int .u64 0) (.int .u64 0) (.slice none 0 0) (.int .i64 0) (.slice none 0 0)
  rd : RdI W R s p
  hg : Fp6 W g (.int .i64 id) (.int .u64 lo) (.int .u64 hi) v (.int .i64 0) (.slice none 0 0)
  own : ownT W B v ps
  r1 : w.heap.size < R
  r2 : w.heap.size < g
  n1 : R ≠ g
  b1 : R < B
  b2 : g < B
  b3 : B ≤ W.heap.size
theorem AoS.read {w : World} {R g B : Nat} {s : ByteArray} {id lo hi : Int} {W W' : World} {p q : Nat} {v : Value} {ps : List DT} (h : AoS w R g B s id lo hi W p v ps) (hf : Fr R W W') (hr : RdI W' R s q) : AoS w R g B s id lo hi W' q v ps :=
  ⟨h.bel.trans (hf.toBelow.mono (Nat.le_of_lt h.r1)), h.z.fr hf (by have := h.r1; omega), hr, h.hg.fr hf (Ne.symm h.n1), h.own.same (fun k hk hB => hf.rest k hk (by have := h.b1; omega)), h.r1, h.r2, h.n1, h.b1, h.b2, Nat.le_trans h.b3 hf.toBelow.size⟩
theorem AoS.app {w : World} {R g B : Nat} {s : ByteArray} {id lo hi : Int} {W W' : World} {p : Nat} {v v' : Value} {ps ps' : List DT} (h : AoS w R g B s id lo hi W p v ps) (ho : ownT W' B v' ps') (hb : Below B W W') : AoS w R g B s id lo hi (W'.setCell ⟨g, 3, none⟩ v') p v' ps' := by
  have := h.r1
  have := h.r2
  have := h.b1
  have := h.b2
  refine ⟨(h.bel.trans (hb.mono (by omega))).setCell (p := ⟨g, 3, none⟩) (by simp only; omega) _, (h.z.later hb (by omega)).other (p := ⟨g, 3, none⟩) _ (by simp only; omega), RdI.other (p := ⟨g, 3, none⟩) ((hb.block R h.b1).trans h.rd) _ h.n1, (h.hg.later hb h.b2).set3 v', ho.same (fun k hk hB => Below.heap_setCell _ _ _ k (by simp only; omega)), h.r1, h.r2, h.n1, h.b1, h.b2, ?_⟩
  have := hb.size
  have := h.b3
  simp
  omega
theorem AoS.top {w : World} {R g B : Nat} {s : ByteArray} {id lo hi : Int} {W : World} {p : Nat} {v : Value} {ps : List DT} (h : AoS w R g B s id lo hi W p v ps) (t : Int) : AoS w R g B s id lo t (W.setCell ⟨g, 2, none⟩ (.int .u64 t)) p v ps := by
  have := h.r1
  have := h.r2
  have := h.b1
  have := h.b2
  refine ⟨h.bel.setCell (p := ⟨g, 2, none⟩) (by simp only; omega) _, h.z.other (p := ⟨g, 2, none⟩) _ (by simp only; omega), RdI.other (p := ⟨g, 2, none⟩) h.rd _ h.n1, h.hg.set2 _, h.own.same (fun k hk hB => Below.heap_setCell _ _ _ k (by simp only; omega)), h.r1, h.r2, h.n1, h.b1, h.b2, ?_⟩
  have := h.b3
  simpa using this
theorem AoS.drew {w : World} {R g B : Nat} {s : ByteArray} {id lo hi : Int} {W : World} {p : Nat} {v : Value} {ps : List DT} (h : AoS w R g B s id lo hi W p v ps) : AoS w R g B s id lo hi W.drew p v ps :=
  ⟨h.bel.drew, h.z, h.rd, h.hg, h.own.same (fun _ _ _ => rfl), h.r1, h.r2, h.n1, h.b1, h.b2, h.b3⟩
theorem AoS.drewN {w : World} {R g B : Nat} {s : ByteArray} {id lo hi : Int} {W : World} {p : Nat} {v : Value} {ps : List DT} (h : AoS w R g B s id lo hi W p v ps) (n : Nat) : AoS w R g B s id lo hi (W.drewN n) p v ps := by
  induction n with
  | zero => exact h
  | succ n ih => exact ih.drew
set_option maxHeartbeats 25600000 in
theorem dataOf_any (w : World) (b : ByteArray) (hs : b.size ≤ 1125899906842624) (hT : HalfAt w) : Calls Tryz.prog 34 #[.string b] w (AoC w b) := by
  have hb0 : Below w.heap.size w (w.alloc (.cells #[.int .i64 0, .int .u64 0, .int .u64 0, .slice none 0 0, .int .i64 0, .slice none 0 0] 26)) := (Below.refl _ _).alloc (Nat.le_refl _) _
  have HB0 : Hid _ := hb0
  have HZ0 : Hid (Fp6 (w.alloc (.cells #[.int .i64 0, .int .u64 0, .int .u64 0, .slice none 0 0, .int .i64 0, .slice none 0 0] 26)) w.heap.size (.int .i64 0) (.int .u64 0) (.int .u64 0) (.slice none 0 0) (.int .i64 0) (.slice none 0 0)) := heap_alloc_new w _
  have HO : Hid (∀ _ : Unit, _) := fun _ => open_any b mgAB (w.alloc (.cells #[.int .i64 0, .int .u64 0, .int .u64 0, .slice none 0 0, .int .i64 0, .slice none 0 0] 26)) rfl hs (hT.later hb0)
  have hsz : (b.extract 0 (b.size - 4)).size ≤ 1125899906842624 := by rw [ByteArray.size_extract]; omega
  have h12 : opE b mgAB = 0 → 8 ≤ (b.extract 0 (b.size - 4)).size := fun h => by
    rw [ByteArray.size_extract]
    unfold opE at h
    split at h
    · cases h
    · omega
  have HSZ : Hid _ := h12
  clear hT hb0 h12
  go_enter Tryz.func34, Tryz.ntmps34
  go_wp2_with fail
  generalize hw0 : w.alloc (.cells #[.int .i64 0, .int .u64 0, .int .u64 0, .slice none 0 0, .int .i64 0, .slice none 0 0] 26) = y0 at *
  clear hw0
  refine (HO.out ()).mono ?_
  rintro e w1 ⟨hb1, hor⟩
  rcases hor.symm with ⟨hne, rfl⟩ | ⟨h0, R, rfl, hR, hrd⟩
  · exact ⟨rfl, AoC.no (HB0.out.trans (hb1.mono HB0.out.size)) (.inl ⟨hne, rfl⟩)⟩
  clear hor
  have HOP : Hid (opE b mgAB = 0) := h0
  have h8 := HSZ.out h0
  have HZ1 : Hid (Fp6 w1 w.heap.size (.int .i64 0) (.int .u64 0) (.int .u64 0) (.slice none 0 0) (.int .i64 0) (.slice none 0 0)) := HZ0.out.later hb1 HZ0.out.lt
  have HB1 : Hid (Below w.heap.size w w1) := HB0.out.trans (hb1.mono HB0.out.size)
  have hzr : w.heap.size < R := Nat.lt_of_lt_of_le HZ0.out.lt hR
  have HR1 : Hid (RdI w1 R (b.extract 0 (b.size - 4)) 8) := hrd
  have HN : Hid (rdA (b.extract 0 (b.size - 4)) = none → AoNo b 125) := fun h => AoNo.none HOP.out h
  clear h0 hb1 hrd HO HB0 HZ0 HSZ hR
  generalize hss : b.extract 0 (b.size - 4) = s at *
  have HSS : Hid _ := hss
  clear hss
  have hp0 := h8
  have HC1 : Hid (∀ _ : Unit, _) := fun _ => countI R s 8 99999999 w1 HR1.out hp0 hsz (by omega) (by omega)
  cases hx1 : rdU s 8 99999999 with
  | none =>
    rw [hx1] at HC1
    go_wp2_with fail
    refine (HC1.out ()).mono ?_
    intro e w2 ht
    obtain ⟨hf, rfl⟩ := ht.noA
    exact ⟨rfl, AoC.no (HB1.out.trans (hf.toBelow.mono (Nat.le_of_lt hzr))) (HN.out (rdA_n1  hx1))⟩
  | some yy =>
    obtain ⟨x1, p1⟩ := yy
    rw [hx1] at HC1
    have HX1 : Hid _ := hx1
    obtain ⟨ff, qq, lb1, ub1⟩ := rdU_form hx1
    have hp1 := ff.size hp0
    rw [← qq] at hp1
    clear ff qq hx1 hp0
    go_wp2_with fail
    refine (HC1.out ()).mono ?_
    intro e w2 ht
    obtain ⟨hf, rfl, hr⟩ := ht.yesA
    have HB2 : Hid (Below w.heap.size w w2) := HB1.out.trans (hf.toBelow.mono (Nat.le_of_lt hzr))
    have HZ2 : Hid (Fp6 w2 w.heap.size (.int .i64 0) (.int .u64 0) (.int .u64 0) (.slice none 0 0) (.int .i64 0) (.slice none 0 0)) := HZ1.out.fr hf (by omega)
    have HR2 : Hid (RdI w2 R s p1) := hr
    clear hf hr ht HC1 HB1 HZ1 HR1
    have HC2 : Hid (∀ _ : Unit, _) := fun _ => numberI R s p1 4611686018427387903 w2 HR2.out hp1 hsz
    cases hx2 : rdU s p1 4611686018427387903 with
    | none =>
      rw [hx2] at HC2
      go_wp2_with fail
      refine (HC2.out ()).mono ?_
      intro e w2 ht
      obtain ⟨hf, rfl⟩ := ht.noA
      exact ⟨rfl, AoC.no (HB2.out.trans (hf.toBelow.mono (Nat.le_of_lt hzr))) (HN.out (rdA_n2 HX1.out hx2))⟩
    | some yy =>
      obtain ⟨x2, p2⟩ := yy
      rw [hx2] at HC2
      have HX2 : Hid _ := hx2
      obtain ⟨ff, qq, lb2, ub2⟩ := rdU_form hx2
      have hp2 := ff.size hp1
      rw [← qq] at hp2
      clear ff qq hx2 hp1
      go_wp2_with fail
      refine (HC2.out ()).mono ?_
      intro e w3 ht
      obtain ⟨hf, rfl, hr⟩ := ht.yesA
      have HB3 : Hid (Below w.heap.size w w3) := HB2.out.trans (hf.toBelow.mono (Nat.le_of_lt hzr))
      have HZ3 : Hid (Fp6 w3 w.heap.size (.int .i64 0) (.int .u64 0) (.int .u64 0) (.slice none 0 0) (.int .i64 0) (.slice none 0 0)) := HZ2.out.fr hf (by omega)
      have HR3 : Hid (RdI w3 R s p2) := hr
      clear hf hr ht HC2 HB2 HZ2 HR2
      have hba : Below w3.heap.size w3 (w3.alloc (.cells #[.int .i64 x1, .int .u64 x2, .int .u64 0, .slice none 0 0, .int .i64 0, .slice none 0 0] 26)) := (Below.refl _ _).alloc (Nat.le_refl _) _
      have hR3 := HR3.out.lt
      have HS3 : Hid (AoS w R w3.heap.size (w3.heap.size + 1) s x1 x2 0 (w3.alloc (.cells #[.int .i64 x1, .int .u64 x2, .int .u64 0, .slice none 0 0, .int .i64 0, .slice none 0 0] 26)) p2 (.slice none 0 0) []) := ⟨HB3.out.trans (hba.mono HB3.out.size), HZ3.out.later hba HZ3.out.lt, HR3.out.later hba, heap_alloc_new w3 _, ownT_nil _ _, hzr, by omega, by omega, by omega, by omega, by simp⟩
      clear hba HB3 HZ3 HR3
      go_wp2_with fail
      generalize hya : w3.alloc (.cells #[.int .i64 x1, .int .u64 x2, .int .u64 0, .slice none 0 0, .int .i64 0, .slice none 0 0] 26) = y3 at *
      generalize hgg : w3.heap.size = g at *
      clear hya hgg hR3
      have hw0 : IntKind.u64.wrap (4611686018427387903 - x2) = 4611686018427387903 - x2 := by rw [IntKind.wrap_u64]; omega
      have c1 : y3.cell? ⟨g, 1, none⟩ = some (.int .u64 x2) := HS3.out.hg.cell 1
      have HC3 : Hid (∀ _ : Unit, _) := fun _ => numberI R s p2 (4611686018427387903 - x2) y3.drew HS3.out.drew.rd hp2 hsz
      cases hx3 : rdU s p2 (4611686018427387903 - x2) with
      | none =>
        rw [hx3] at HC3
        (refine wp_region_held_drew (S := (fun W => W.cell? ⟨g, 1, none⟩ = some (.int .u64 x2))) (by kernel_rfl) c1 (fun hHeld => ?_); simp only [List.size_toArray, List.length_cons, List.length_nil, Nat.reduceAdd, Array.replicate_succ, Array.replicate_zero, List.push_toArray, List.append_toArray, List.nil_append, List.cons_append])
        (refine tk0 (v := ?_) (by kernel_rfl) (by kernel_rfl) (by kernel_rfl) (fun _ _ _ h => h) (Or.inl ⟨by rfl, ?_⟩) (by assumption) ?_; rotate_left; (focus (intro w hSw; (try dsimp only at hSw); go_simp; (try first | (rw [dif_pos (by omega)]; simp only [Result.andThen_ok]) | rw [if_pos (by omega)]); (try with_reducible rfl); done)); try simp only [Act.put, List.setIfInBounds_toArray, List.set_cons_zero, List.set_cons_succ])
        (refine tk1 (v := ?_) (by kernel_rfl) (by kernel_rfl) (by kernel_rfl) (fun _ _ _ h => h) (Or.inl ⟨by rfl, ?_⟩) (by assumption) ?_; rotate_left; (focus (intro w hSw; (try dsimp only at hSw); go_simp; (try first | (rw [dif_pos (by omega)]; simp only [Result.andThen_ok]) | rw [if_pos (by omega)]); (try with_reducible rfl); done)); try simp only [Act.put, List.setIfInBounds_toArray, List.set_cons_zero, List.set_cons_succ])
        (refine tk2 (v := ?_) (by kernel_rfl) (by kernel_rfl) (by kernel_rfl) (fun _ _ _ h => h) (Or.inl ⟨by rfl, ?_⟩) (by assumption) ?_; rotate_left; (focus (intro w hSw; (try dsimp only at hSw); go_simp; (try first | (rw [dif_pos (by omega)]; simp only [Result.andThen_ok]) | rw [if_pos (by omega)]); (try with_reducible rfl); done)); try simp only [Act.put, List.setIfInBounds_toArray, List.set_cons_zero, List.set_cons_succ])
        (refine tk3 (v := ?_) (by kernel_rfl) (by kernel_rfl) (by kernel_rfl) (fun _ _ _ h => h) (Or.inl ⟨by rfl, ?_⟩) (by assumption) ?_; rotate_left; (focus (intro w hSw; (try dsimp only at hSw); go_simp; (try first | (rw [dif_pos (by omega)]; simp only [Result.andThen_ok]) | rw [if_pos (by omega)]); (try with_reducible rfl); done)); try simp only [Act.put, List.setIfInBounds_toArray, List.set_cons_zero, List.set_cons_succ])
        (refine tk4 (v := ?_) (by kernel_rfl) (by kernel_rfl) (by kernel_rfl) (fun _ _ _ h => h) (Or.inl ⟨by rfl, ?_⟩) (by assumption) ?_; rotate_left; (focus (intro w hSw; (try dsimp only at hSw); go_simp; (try first | (rw [dif_pos (by omega)]; simp only [Result.andThen_ok]) | rw [if_pos (by omega)]); (try with_reducible rfl); done)); try simp only [Act.put, List.setIfInBounds_toArray, List.set_cons_zero, List.set_cons_succ])
        (refine tk5 (v := ?_) (by kernel_rfl) (by kernel_rfl) (by kernel_rfl) (fun _ _ _ h => h) (Or.inl ⟨by rfl, ?_⟩) (by assumption) ?_; rotate_left; (focus (intro w hSw; (try dsimp only at hSw); go_simp; (try first | (rw [dif_pos (by omega)]; simp only [Result.andThen_ok]) | rw [if_pos (by omega)]); (try with_reducible rfl); done)); try simp only [Act.put, List.setIfInBounds_toArray, List.set_cons_zero, List.set_cons_succ])
        (refine wpAnyH_ready (rs := [6]) (by kernel_rfl) (by simp) ?_; refine ar6 (fun K hK => ?_) AllReadyH.nil; go_simp)
        refine (HC3.out ()).mono ?_
        intro e w5 ht
        obtain ⟨hf, rfl⟩ := ht.noA
        exact ⟨rfl, AoC.no (HS3.out.drew.bel.trans (hf.toBelow.mono (Nat.le_of_lt hzr))) (HN.out (rdA_n3 HX1.out HX2.out hx3))⟩
      | some yy =>
        obtain ⟨x3, p3⟩ := yy
        rw [hx3] at HC3
        have HX3 : Hid _ := hx3
        obtain ⟨ff, qq, lb3, ub3⟩ := rdU_form hx3
        have hp3 := ff.size hp2
        rw [← qq] at hp3
        clear ff qq hp2 hx3
        have hwt : IntKind.u64.wrap (x2 + x3) = x2 + x3 := by rw [IntKind.wrap_u64]; omega
        (refine wp_region_held_drew (S := (fun W => W.cell? ⟨g, 1, none⟩ = some (.int .u64 x2))) (by kernel_rfl) c1 (fun hHeld => ?_); simp only [List.size_toArray, List.length_cons, List.length_nil, Nat.reduceAdd, Array.replicate_succ, Array.replicate_zero, List.push_toArray, List.append_toArray, List.nil_append, List.cons_append])
        (refine tk0 (v := ?_) (by kernel_rfl) (by kernel_rfl) (by kernel_rfl) (fun _ _ _ h => h) (Or.inl ⟨by rfl, ?_⟩) (by assumption) ?_; rotate_left; (focus (intro w hSw; (try dsimp only at hSw); go_simp; (try first | (rw [dif_pos (by omega)]; simp only [Result.andThen_ok]) | rw [if_pos (by omega)]); (try with_reducible rfl); done)); try simp only [Act.put, List.setIfInBounds_toArray, List.set_cons_zero, List.set_cons_succ])
        (refine tk1 (v := ?_) (by kernel_rfl) (by kernel_rfl) (by kernel_rfl) (fun _ _ _ h => h) (Or.inl ⟨by rfl, ?_⟩) (by assumption) ?_; rotate_left; (focus (intro w hSw; (try dsimp only at hSw); go_simp; (try first | (rw [dif_pos (by omega)]; simp only [Result.andThen_ok]) | rw [if_pos (by omega)]); (try with_reducible rfl); done)); try simp only [Act.put, List.setIfInBounds_toArray, List.set_cons_zero, List.set_cons_succ])
        (refine tk2 (v := ?_) (by kernel_rfl) (by kernel_rfl) (by kernel_rfl) (fun _ _ _ h => h) (Or.inl ⟨by rfl, ?_⟩) (by assumption) ?_; rotate_left; (focus (intro w hSw; (try dsimp only at hSw); go_simp; (try first | (rw [dif_pos (by omega)]; simp only [Result.andThen_ok]) | rw [if_pos (by omega)]); (try with_reducible rfl); done)); try simp only [Act.put, List.setIfInBounds_toArray, List.set_cons_zero, List.set_cons_succ])
        (refine tk3 (v := ?_) (by kernel_rfl) (by kernel_rfl) (by kernel_rfl) (fun _ _ _ h => h) (Or.inl ⟨by rfl, ?_⟩) (by assumption) ?_; rotate_left; (focus (intro w hSw; (try dsimp only at hSw); go_simp; (try first | (rw [dif_pos (by omega)]; simp only [Result.andThen_ok]) | rw [if_pos (by omega)]); (try with_reducible rfl); done)); try simp only [Act.put, List.setIfInBounds_toArray, List.set_cons_zero, List.set_cons_succ])
        (refine tk4 (v := ?_) (by kernel_rfl) (by kernel_rfl) (by kernel_rfl) (fun _ _ _ h => h) (Or.inl ⟨by rfl, ?_⟩) (by assumption) ?_; rotate_left; (focus (intro w hSw; (try dsimp only at hSw); go_simp; (try first | (rw [dif_pos (by omega)]; simp only [Result.andThen_ok]) | rw [if_pos (by omega)]); (try with_reducible rfl); done)); try simp only [Act.put, List.setIfInBounds_toArray, List.set_cons_zero, List.set_cons_succ])
        (refine tk5 (v := ?_) (by kernel_rfl) (by kernel_rfl) (by kernel_rfl) (fun _ _ _ h => h) (Or.inl ⟨by rfl, ?_⟩) (by assumption) ?_; rotate_left; (focus (intro w hSw; (try dsimp only at hSw); go_simp; (try first | (rw [dif_pos (by omega)]; simp only [Result.andThen_ok]) | rw [if_pos (by omega)]); (try with_reducible rfl); done)); try simp only [Act.put, List.setIfInBounds_toArray, List.set_cons_zero, List.set_cons_succ])
        (refine wpAnyH_ready (rs := [6]) (by kernel_rfl) (by simp) ?_; refine ar6 (fun K hK => ?_) AllReadyH.nil; go_simp)
        refine (HC3.out ()).mono ?_
        intro e w4 ht
        obtain ⟨hf, rfl, hr⟩ := ht.yesA
        have hS4 := HS3.out.drew.read hf hr
        have d1 : w4.cell? ⟨g, 1, none⟩ = some (.int .u64 x2) := hS4.hg.cell 1
        have d2 : w4.cell? ⟨g, 2, none⟩ = some (.int .u64 0) := hS4.hg.cell 2
        have e2 := hS4.hg.free 2
        have HS5 : Hid (AoS w R g (g + 1) s x1 x2 (x2 + x3) (w4.setCell ⟨g, 2, none⟩ (.int .u64 (x2 + x3))) p3 (.slice none 0 0) []) := hS4.top _
        clear hf hr ht HC3 HS3 hS4 c1 hHeld
        (refine hK.out _ _ d1 (fun hHeld => ?_); clear hK K; try simp only [Act.put, List.setIfInBounds_toArray, List.set_cons_zero, List.set_cons_succ])
        (refine tk7 (v := ?_) (by kernel_rfl) (by kernel_rfl) (by kernel_rfl) (fun _ _ _ h => h) (Or.inl ⟨by rfl, ?_⟩) (by assumption) ?_; rotate_left; (focus (intro w hSw; (try dsimp only at hSw); go_simp; (try first | (rw [dif_pos (by omega)]; simp only [Result.andThen_ok]) | rw [if_pos (by omega)]); (try with_reducible rfl); done)); try simp only [Act.put, List.setIfInBounds_toArray, List.set_cons_zero, List.set_cons_succ])
        (refine tk8 (v := ?_) (by kernel_rfl) (by kernel_rfl) (by kernel_rfl) (fun _ _ _ h => h) (Or.inl ⟨by rfl, ?_⟩) (by assumption) ?_; rotate_left; (focus (intro w hSw; (try dsimp only at hSw); go_simp; (try first | (rw [dif_pos (by omega)]; simp only [Result.andThen_ok]) | rw [if_pos (by omega)]); (try with_reducible rfl); done)); try simp only [Act.put, List.setIfInBounds_toArray, List.set_cons_zero, List.set_cons_succ])
        (refine wpAnyH_ready (rs := [9]) (by kernel_rfl) (by simp) ?_; refine ar9 (fun K hK => ?_) AllReadyH.nil; go_simp)
        generalize w4.setCell ⟨g, 2, none⟩ (.int .u64 (x2 + x3)) = y5 at *
        have c1 : y5.cell? ⟨g, 1, none⟩ = some (.int .u64 x2) := HS5.out.hg.cell 1
        (refine hK.out _ _ c1 (fun hHeld => ?_); clear hK K; try simp only [Act.put, List.setIfInBounds_toArray, List.set_cons_zero, List.set_cons_succ])
        refine wpAnyH_done (by kernel_rfl) ?_ _
        clear d1 d2 e2 hHeld
        have ht0 : x2 ≤ x2 + x3 := by omega
        have ht1 : x2 + x3 ≤ 4611686018427387903 := by omega
        have HC4 : Hid (∀ _ : Unit, _) := fun _ => countI R s p3 65536 y5 HS5.out.rd hp3 hsz (by omega) (by omega)
        cases hx4 : rdU s p3 65536 with
        | none =>
          rw [hx4] at HC4
          go_wp2_with fail
          refine (HC4.out ()).mono ?_
          intro e w6 ht
          obtain ⟨hf, rfl⟩ := ht.noA
          exact ⟨rfl, AoC.no (HS5.out.bel.trans (hf.toBelow.mono (Nat.le_of_lt hzr))) (HN.out (rdA_n4 HX1.out HX2.out HX3.out hx4))⟩
        | some yy =>
          obtain ⟨x4, p4⟩ := yy
          rw [hx4] at HC4
          obtain ⟨ff, qq, lb4, ub4⟩ := rdU_form hx4
          have hp4 := ff.size hp3
          rw [← qq] at hp4
          clear ff qq hp3
          obtain ⟨n, rfl⟩ := Int.eq_ofNat_of_zero_le lb4
          have HM5 : Hid (rdA s = (restT s (x2 + x3) [] n p4 x2).bind fun y => if y.2 = s.size then some ((x1, x2, x2 + x3), y.1) else none) := rdA_5 HX1.out HX2.out HX3.out hx4
          clear hx4 HX1 HX2 HX3
          go_wp2_with fail
          refine (HC4.out ()).mono ?_
          intro e w6 ht
          obtain ⟨hf, rfl, hr⟩ := ht.yesA
          have HS6 : Hid (AoS w R g (g + 1) s x1 x2 (x2 + x3) w6 p4 (.slice none 0 0) []) := HS5.out.read hf hr
          clear hf hr ht HC4 HS5 c1 hwt
          generalize x2 + x3 = t at *
          go_wp2_with fail
          go_loopw [5, 26] (fun h i wr => ∃ (k p : Nat) (last : Int) (v : Value) (ps : List DT), k ≤ n ∧ i = .int .i64 k ∧ h = .int .u64 last ∧ 0 ≤ last ∧ last ≤ t ∧ p ≤ s.size ∧ ps.length = k ∧ (∀ q ∈ ps, q.wf) ∧ AoS w R g (g + 1) s x1 x2 t wr p v ps ∧ restT s t [] n p4 x2 = restT s t ps (n - k) p last) (fun _ i _ => n - (intOf i).toNat)
          case atStart => exact ⟨0, p4, x2, .slice none 0 0, [], by omega, rfl, rfl, lb2, ht0, hp4, rfl, (fun _ h => by cases h), HS6.out, rfl⟩
          case round =>
            obtain ⟨k, p, last, v, ps, hk, rfl, rfl, hl0, hl1, hps, hlen, hwf, hS, hrest⟩ := hrel
            have HSk : Hid (AoS w R g (g + 1) s x1 x2 t wr p v ps) := hS
            have HWF : Hid (∀ q ∈ ps, q.wf) := hwf
            have HRs : Hid (restT s t [] n p4 x2 = restT s t ps (n - k) p last) := hrest
            have HLN : Hid (ps.length = k) := hlen
            clear hS hwf hrest hlen HS6
            by_cases hlt : k < n
            · have HNz : Hid (rdDt s t p last = none → rdA s = none) := fun hv => by
                rw [HM5.out, HRs.out, show n - k = n - (k + 1) + 1 from by omega, restT_no hv]
                rfl
              have c2 : wr.cell? ⟨g, 2, none⟩ = some (.int .u64 t) := HSk.out.hg.cell 2
              have hwl : IntKind.u64.wrap (t - last) = t - last := by rw [IntKind.wrap_u64]; omega
              have HC5 : Hid (∀ _ : Unit, _) := fun _ => numberI R s p (t - last) wr HSk.out.rd hps hsz
              cases h5 : rdU s p (t - last) with
              | none =>
                rw [h5] at HC5
                have HNo : Hid (rdA s = none) := HNz.out (by rw [rdDt, h5]; rfl)
                go_wp2_with fail
                refine (HC5.out ()).mono ?_
                intro e w6 ht
                obtain ⟨hf, rfl⟩ := ht.noA
                exact ⟨rfl, AoC.no (HSk.out.bel.trans (hf.toBelow.mono (Nat.le_of_lt hzr))) (HN.out HNo.out)⟩
              | some yy =>
                obtain ⟨a1, q1⟩ := yy
                rw [h5] at HC5
                obtain ⟨ff, qq, la1, ua1⟩ := rdU_form h5
                have hq1 := ff.size hps
                rw [← qq] at hq1
                clear ff qq
                have HE5 : Hid (rdDt s t p last = (rdB s q1).bind fun x2 => (rdB s x2.2).bind fun x3 => some (⟨last + a1, x2.1, x3.1⟩, x3.2)) := by show _ = _; rw [rdDt, h5]; rfl
                clear h5
                go_wp2_with fail
                refine (HC5.out ()).mono ?_
                intro e w6 ht
                obtain ⟨hf, rfl, hr⟩ := ht.yesA
                have HS6 : Hid (AoS w R g (g + 1) s x1 x2 t w6 q1 v ps) := HSk.out.read hf hr
                clear hf hr ht HC5 HSk hps c2
                have c5 : w6.cell? ⟨g, 3, none⟩ = some v := HS6.out.hg.cell 3
                obtain ⟨ao, cap, rfl, -, -⟩ := HS6.out.own.slice
                go_wp2_with fail
                generalize hL : last + a1 = L at *
                have hL0 : 0 ≤ L := by omega
                have hL1 : L ≤ t := by omega
                have HC7 : Hid (∀ _ : Unit, _) := fun _ => takeBI R s q1 w6.drew HS6.out.drew.rd hq1 hsz
                have HLen : Hid ((ps.length + 1) * 40 ≤ 140737488355328) := by have := HLN.out; show _ ≤ _; omega
                cases h7 : rdB s q1 with
                | none =>
                  rw [h7] at HC7
                  have HNo : Hid (rdA s = none) := HNz.out (by rw [HE5.out, h7]; rfl)
                  (refine wp_region_held_drew (S := (fun _ => True)) (by kernel_rfl) trivial (fun hHeld => ?_); simp only [List.size_toArray, List.length_cons, List.length_nil, Nat.reduceAdd, Array.replicate_succ, Array.replicate_zero, List.push_toArray, List.append_toArray, List.nil_append, List.cons_append])
                  (refine tk0 (v := ?_) (by kernel_rfl) (by kernel_rfl) (by kernel_rfl) (fun _ _ _ h => h) (Or.inl ⟨by rfl, ?_⟩) (by assumption) ?_; rotate_left; (focus (intro w hSw; (try dsimp only at hSw); go_simp; (try first | (rw [dif_pos (by omega)]; simp only [Result.andThen_ok]) | rw [if_pos (by omega)]); (try with_reducible rfl); done)); try simp only [Act.put, List.setIfInBounds_toArray, List.set_cons_zero, List.set_cons_succ])
                  (refine tk2 (v := ?_) (by kernel_rfl) (by kernel_rfl) (by kernel_rfl) (fun _ _ _ h => h) (Or.inl ⟨by rfl, ?_⟩) (by assumption) ?_; rotate_left; (focus (intro w hSw; (try dsimp only at hSw); go_simp; (try first | (rw [dif_pos (by omega)]; simp only [Result.andThen_ok]) | rw [if_pos (by omega)]); (try with_reducible rfl); done)); try simp only [Act.put, List.setIfInBounds_toArray, List.set_cons_zero, List.set_cons_succ])
                  (refine tk3 (v := ?_) (by kernel_rfl) (by kernel_rfl) (by kernel_rfl) (fun _ _ _ h => h) (Or.inl ⟨by rfl, ?_⟩) (by assumption) ?_; rotate_left; (focus (intro w hSw; (try dsimp only at hSw); go_simp; (try first | (rw [dif_pos (by omega)]; simp only [Result.andThen_ok]) | rw [if_pos (by omega)]); (try with_reducible rfl); done)); try simp only [Act.put, List.setIfInBounds_toArray, List.set_cons_zero, List.set_cons_succ])
                  (refine tk5 (v := ?_) (by kernel_rfl) (by kernel_rfl) (by kernel_rfl) (fun _ _ _ h => h) (Or.inl ⟨by rfl, ?_⟩) (by assumption) ?_; rotate_left; (focus (intro w hSw; (try dsimp only at hSw); go_simp; (try first | (rw [dif_pos (by omega)]; simp only [Result.andThen_ok]) | rw [if_pos (by omega)]); (try with_reducible rfl); done)); try simp only [Act.put, List.setIfInBounds_toArray, List.set_cons_zero, List.set_cons_succ])
                  (refine wpAnyH_ready (rs := [1, 4]) (by kernel_rfl) (by simp) ?_; refine ar1 (fun K hK => ?_) (ar4 (fun K hK => ?_) AllReadyH.nil) <;> go_simp)
                  · (refine hK.out _ _ trivial (fun hHeld => ?_); clear hK K; try simp only [Act.put, List.setIfInBounds_toArray, List.set_cons_zero, List.set_cons_succ])
                    (refine wpAnyH_ready (rs := [4]) (by kernel_rfl) (by simp) ?_; refine ar4 (fun K hK => ?_) AllReadyH.nil; go_simp)
                    refine (HC7.out ()).mono ?_
                    intro e w7 ht
                    obtain ⟨hf, rfl⟩ := ht.no
                    exact ⟨rfl, AoC.no (HS6.out.drew.bel.trans (hf.toBelow.mono (Nat.le_of_lt hzr))) (HN.out HNo.out)⟩
                  · refine (HC7.out ()).mono ?_
                    intro e w7 ht
                    obtain ⟨hf, rfl⟩ := ht.no
                    exact ⟨rfl, AoC.no (HS6.out.drew.bel.trans (hf.toBelow.mono (Nat.le_of_lt hzr))) (HN.out HNo.out)⟩
                | some yy =>
                  obtain ⟨ky, q2⟩ := yy
                  rw [h7] at HC7
                  obtain ⟨_, _, hq2, hky⟩ := rdB_form h7
                  have HE7 : Hid (rdDt s t p last = (rdB s q2).bind fun x3 => some (⟨L, ky, x3.1⟩, x3.2)) := by show _ = _; rw [HE5.out, h7]; rfl
                  clear h7
                  have HC8 : Hid (∀ W, RdI W R s q2 → _) := fun W h => takeBI R s q2 W h hq2 hsz
                  cases h8 : rdB s q2 with
                  | none =>
                    rw [h8] at HC8
                    have HNo : Hid (rdA s = none) := HNz.out (by rw [HE7.out, h8]; rfl)
                    (refine wp_region_held_drew (S := (fun _ => True)) (by kernel_rfl) trivial (fun hHeld => ?_); simp only [List.size_toArray, List.length_cons, List.length_nil, Nat.reduceAdd, Array.replicate_succ, Array.replicate_zero, List.push_toArray, List.append_toArray, List.nil_append, List.cons_append])
                    (refine tk0 (v := ?_) (by kernel_rfl) (by kernel_rfl) (by kernel_rfl) (fun _ _ _ h => h) (Or.inl ⟨by rfl, ?_⟩) (by assumption) ?_; rotate_left; (focus (intro w hSw; (try dsimp only at hSw); go_simp; (try first | (rw [dif_pos (by omega)]; simp only [Result.andThen_ok]) | rw [if_pos (by omega)]); (try with_reducible rfl); done)); try simp only [Act.put, List.setIfInBounds_toArray, List.set_cons_zero, List.set_cons_succ])
                    (refine tk2 (v := ?_) (by kernel_rfl) (by kernel_rfl) (by kernel_rfl) (fun _ _ _ h => h) (Or.inl ⟨by rfl, ?_⟩) (by assumption) ?_; rotate_left; (focus (intro w hSw; (try dsimp only at hSw); go_simp; (try first | (rw [dif_pos (by omega)]; simp only [Result.andThen_ok]) | rw [if_pos (by omega)]); (try with_reducible rfl); done)); try simp only [Act.put, List.setIfInBounds_toArray, List.set_cons_zero, List.set_cons_succ])
                    (refine tk3 (v := ?_) (by kernel_rfl) (by kernel_rfl) (by kernel_rfl) (fun _ _ _ h => h) (Or.inl ⟨by rfl, ?_⟩) (by assumption) ?_; rotate_left; (focus (intro w hSw; (try dsimp only at hSw); go_simp; (try first | (rw [dif_pos (by omega)]; simp only [Result.andThen_ok]) | rw [if_pos (by omega)]); (try with_reducible rfl); done)); try simp only [Act.put, List.setIfInBounds_toArray, List.set_cons_zero, List.set_cons_succ])
                    (refine tk5 (v := ?_) (by kernel_rfl) (by kernel_rfl) (by kernel_rfl) (fun _ _ _ h => h) (Or.inl ⟨by rfl, ?_⟩) (by assumption) ?_; rotate_left; (focus (intro w hSw; (try dsimp only at hSw); go_simp; (try first | (rw [dif_pos (by omega)]; simp only [Result.andThen_ok]) | rw [if_pos (by omega)]); (try with_reducible rfl); done)); try simp only [Act.put, List.setIfInBounds_toArray, List.set_cons_zero, List.set_cons_succ])
                    (refine wpAnyH_ready (rs := [1, 4]) (by kernel_rfl) (by simp) ?_; refine ar1 (fun K hK => ?_) (ar4 (fun K hK => ?_) AllReadyH.nil) <;> go_simp)
                    · (refine hK.out _ _ trivial (fun hHeld => ?_); clear hK K; try simp only [Act.put, List.setIfInBounds_toArray, List.set_cons_zero, List.set_cons_succ])
                      (refine wpAnyH_ready (rs := [4]) (by kernel_rfl) (by simp) ?_; refine ar4 (fun K hK => ?_) AllReadyH.nil; go_simp)
                      refine (HC7.out ()).mono ?_
                      intro e w7 ht
                      obtain ⟨hf, rfl, hr⟩ := ht.yes
                      have HS7 : Hid (AoS w R g (g + 1) s x1 x2 t w7 q2 (.slice ao ps.length cap) ps) := HS6.out.drew.read hf hr
                      have c7 : w7.cell? ⟨g, 3, none⟩ = some (.slice ao ps.length cap) := HS7.out.hg.cell 3
                      clear hf hr ht
                      (refine hK.out _ _ trivial (fun hHeld => ?_); clear hK K; try simp only [Act.put, List.setIfInBounds_toArray, List.set_cons_zero, List.set_cons_succ])
                      (refine wpAnyH_ready (rs := [6]) (by kernel_rfl) (by simp) ?_; refine ar6 (fun K hK => ?_) AllReadyH.nil; go_simp)
                      refine (HC8.out w7 HS7.out.rd).mono ?_
                      intro e w8 ht
                      obtain ⟨hf, rfl⟩ := ht.no
                      exact ⟨rfl, AoC.no (HS7.out.bel.trans (hf.toBelow.mono (Nat.le_of_lt hzr))) (HN.out HNo.out)⟩
                    · refine (HC7.out ()).mono ?_
                      intro e w7 ht
                      obtain ⟨hf, rfl, hr⟩ := ht.yes
                      have HS7 : Hid (AoS w R g (g + 1) s x1 x2 t w7 q2 (.slice ao ps.length cap) ps) := HS6.out.drew.read hf hr
                      have c7 : w7.cell? ⟨g, 3, none⟩ = some (.slice ao ps.length cap) := HS7.out.hg.cell 3
                      clear hf hr ht
                      (refine hK.out _ _ trivial (fun hHeld => ?_); clear hK K; try simp only [Act.put, List.setIfInBounds_toArray, List.set_cons_zero, List.set_cons_succ])
                      (refine wpAnyH_ready (rs := [1, 6]) (by kernel_rfl) (by simp) ?_; refine ar1 (fun K hK => ?_) (ar6 (fun K hK => ?_) AllReadyH.nil) <;> go_simp)
                      · (refine hK.out _ _ trivial (fun hHeld => ?_); clear hK K; try simp only [Act.put, List.setIfInBounds_toArray, List.set_cons_zero, List.set_cons_succ])
                        (refine wpAnyH_ready (rs := [6]) (by kernel_rfl) (by simp) ?_; refine ar6 (fun K hK => ?_) AllReadyH.nil; go_simp)
                        refine (HC8.out w7 HS7.out.rd).mono ?_
                        intro e w8 ht
                        obtain ⟨hf, rfl⟩ := ht.no
                        exact ⟨rfl, AoC.no (HS7.out.bel.trans (hf.toBelow.mono (Nat.le_of_lt hzr))) (HN.out HNo.out)⟩
                      · refine (HC8.out w7 HS7.out.rd).mono ?_
                        intro e w8 ht
                        obtain ⟨hf, rfl⟩ := ht.no
                        exact ⟨rfl, AoC.no (HS7.out.bel.trans (hf.toBelow.mono (Nat.le_of_lt hzr))) (HN.out HNo.out)⟩
                  | some yy =>
                    obtain ⟨dt, q3⟩ := yy
                    rw [h8] at HC8
                    obtain ⟨_, _, hq3, hdt⟩ := rdB_form h8
                    have HRs2 : Hid (restT s t [] n p4 x2 = restT s t (ps ++ [⟨L, ky, dt⟩]) (n - (k + 1)) q3 L) := by
                      show _ = _
                      have he : rdDt s t p last = some (⟨L, ky, dt⟩, q3) := by rw [HE7.out, h8]; rfl
                      rw [HRs.out, show n - k = n - (k + 1) + 1 from by omega, restT_yes he]
                    clear h8
                    (refine wp_region_held_drew (S := (fun _ => True)) (by kernel_rfl) trivial (fun hHeld => ?_); simp only [List.size_toArray, List.length_cons, List.length_nil, Nat.reduceAdd, Array.replicate_succ, Array.replicate_zero, List.push_toArray, List.append_toArray, List.nil_append, List.cons_append])
                    (refine tk0 (v := ?_) (by kernel_rfl) (by kernel_rfl) (by kernel_rfl) (fun _ _ _ h => h) (Or.inl ⟨by rfl, ?_⟩) (by assumption) ?_; rotate_left; (focus (intro w hSw; (try dsimp only at hSw); go_simp; (try first | (rw [dif_pos (by omega)]; simp only [Result.andThen_ok]) | rw [if_pos (by omega)]); (try with_reducible rfl); done)); try simp only [Act.put, List.setIfInBounds_toArray, List.set_cons_zero, List.set_cons_succ])
                    (refine tk2 (v := ?_) (by kernel_rfl) (by kernel_rfl) (by kernel_rfl) (fun _ _ _ h => h) (Or.inl ⟨by rfl, ?_⟩) (by assumption) ?_; rotate_left; (focus (intro w hSw; (try dsimp only at hSw); go_simp; (try first | (rw [dif_pos (by omega)]; simp only [Result.andThen_ok]) | rw [if_pos (by omega)]); (try with_reducible rfl); done)); try simp only [Act.put, List.setIfInBounds_toArray, List.set_cons_zero, List.set_cons_succ])
                    (refine tk3 (v := ?_) (by kernel_rfl) (by kernel_rfl) (by kernel_rfl) (fun _ _ _ h => h) (Or.inl ⟨by rfl, ?_⟩) (by assumption) ?_; rotate_left; (focus (intro w hSw; (try dsimp only at hSw); go_simp; (try first | (rw [dif_pos (by omega)]; simp only [Result.andThen_ok]) | rw [if_pos (by omega)]); (try with_reducible rfl); done)); try simp only [Act.put, List.setIfInBounds_toArray, List.set_cons_zero, List.set_cons_succ])
                    (refine tk5 (v := ?_) (by kernel_rfl) (by kernel_rfl) (by kernel_rfl) (fun _ _ _ h => h) (Or.inl ⟨by rfl, ?_⟩) (by assumption) ?_; rotate_left; (focus (intro w hSw; (try dsimp only at hSw); go_simp; (try first | (rw [dif_pos (by omega)]; simp only [Result.andThen_ok]) | rw [if_pos (by omega)]); (try with_reducible rfl); done)); try simp only [Act.put, List.setIfInBounds_toArray, List.set_cons_zero, List.set_cons_succ])
                    (refine wpAnyH_ready (rs := [1, 4]) (by kernel_rfl) (by simp) ?_; refine ar1 (fun K hK => ?_) (ar4 (fun K hK => ?_) AllReadyH.nil) <;> go_simp)
                    · (refine hK.out _ _ trivial (fun hHeld => ?_); clear hK K; try simp only [Act.put, List.setIfInBounds_toArray, List.set_cons_zero, List.set_cons_succ])
                      (refine wpAnyH_ready (rs := [4]) (by kernel_rfl) (by simp) ?_; refine ar4 (fun K hK => ?_) AllReadyH.nil; go_simp)
                      refine (HC7.out ()).mono ?_
                      intro e w7 ht
                      obtain ⟨hf, rfl, hr⟩ := ht.yes
                      have HS7 : Hid (AoS w R g (g + 1) s x1 x2 t w7 q2 (.slice ao ps.length cap) ps) := HS6.out.drew.read hf hr
                      have c7 : w7.cell? ⟨g, 3, none⟩ = some (.slice ao ps.length cap) := HS7.out.hg.cell 3
                      clear hf hr ht
                      (refine hK.out _ _ trivial (fun hHeld => ?_); clear hK K; try simp only [Act.put, List.setIfInBounds_toArray, List.set_cons_zero, List.set_cons_succ])
                      (refine wpAnyH_ready (rs := [6]) (by kernel_rfl) (by simp) ?_; refine ar6 (fun K hK => ?_) AllReadyH.nil; go_simp)
                      refine (HC8.out w7 HS7.out.rd).mono ?_
                      intro e w8 ht
                      obtain ⟨hf, rfl, hr⟩ := ht.yes
                      have HS8 : Hid (AoS w R g (g + 1) s x1 x2 t w8 q3 (.slice ao ps.length cap) ps) := HS7.out.read hf hr
                      have c8 : w8.cell? ⟨g, 3, none⟩ = some (.slice ao ps.length cap) := HS8.out.hg.cell 3
                      have f8 := HS8.out.hg.free 3
                      have hgw : g < w8.heap.size := HS8.out.hg.lt
                      clear hf hr ht
                      (refine hK.out _ _ trivial (fun hHeld => ?_); clear hK K; try simp only [Act.put, List.setIfInBounds_toArray, List.set_cons_zero, List.set_cons_succ])
                      (refine tk7 (v := ?_) (by kernel_rfl) (by kernel_rfl) (by kernel_rfl) (fun _ _ _ h => h) (Or.inl ⟨by rfl, ?_⟩) (by assumption) ?_; rotate_left; (focus (intro w hSw; (try dsimp only at hSw); go_simp; (try first | (rw [dif_pos (by omega)]; simp only [Result.andThen_ok]) | rw [if_pos (by omega)]); (try with_reducible rfl); done)); try simp only [Act.put, List.setIfInBounds_toArray, List.set_cons_zero, List.set_cons_succ])
                      (refine wpAnyH_ready (rs := [8]) (by kernel_rfl) (by simp) ?_; refine ar8 (fun K hK => ?_) AllReadyH.nil; go_simp)
                      (refine hK.out _ _ trivial (fun hHeld => ?_); clear hK K; try simp only [Act.put, List.setIfInBounds_toArray, List.set_cons_zero, List.set_cons_succ])
                      (refine wpAnyH_ready (rs := [9]) (by kernel_rfl) (by simp) ?_; refine ar9 (fun K hK => ?_) AllReadyH.nil; rw [if_pos (by rfl)])
                      refine app_dt_wp _ _ (by rfl) (g + 1) _ ps ⟨L, ky, dt⟩ HS8.out.own (by rfl) w8.heap.size rfl (by rfl) HLen.out (by omega) ?_
                      intro v' w' ho' hb'
                      obtain ⟨a', n', c', rfl⟩ := ho'.isSlice
                      have HS9 : Hid _ := HS8.out.app ho' hb'
                      have k9 : w'.cell? ⟨g, 3, none⟩ = some (.slice ao ps.length cap) := (HS8.out.hg.later hb' (by omega)).cell 3
                      have l9 := (HS8.out.hg.later hb' (by omega)).free 3
                      clear ho' hb'
                      (refine hK.out _ _ trivial (fun hHeld => ?_); clear hK K; try simp only [Act.put, List.setIfInBounds_toArray, List.set_cons_zero, List.set_cons_succ])
                      (refine tk10 (v := ?_) (by kernel_rfl) (by kernel_rfl) (by kernel_rfl) (fun _ _ _ h => h) (Or.inl ⟨by rfl, ?_⟩) (by assumption) ?_; rotate_left; (focus (intro w hSw; (try dsimp only at hSw); go_simp; (try first | (rw [dif_pos (by omega)]; simp only [Result.andThen_ok]) | rw [if_pos (by omega)]); (try with_reducible rfl); done)); try simp only [Act.put, List.setIfInBounds_toArray, List.set_cons_zero, List.set_cons_succ])
                      (refine wpAnyH_ready (rs := [11]) (by kernel_rfl) (by simp) ?_; refine ar11 (fun K hK => ?_) AllReadyH.nil; go_simp)
                      (refine hK.out _ _ trivial (fun hHeld => ?_); clear hK K; try simp only [Act.put, List.setIfInBounds_toArray, List.set_cons_zero, List.set_cons_succ])
                      refine wpAnyH_done (by kernel_rfl) ?_ _
                      go_wp2
                      go_roundw
                      case rel => exact ⟨k + 1, q3, L, _, ps ++ [⟨L, ky, dt⟩], by omega, by go_num, rfl, hL0, hL1, hq3, by rw [List.length_append, HLN.out]; rfl, (fun y hy => by rcases List.mem_append.1 hy with h | h; exact HWF.out _ h; rw [List.mem_singleton.1 h]; exact ⟨by simp only; omega, by simp only; omega⟩), HS9.out, HRs2.out⟩
                      case measure => simp [intOf]; omega
                    · refine (HC7.out ()).mono ?_
                      intro e w7 ht
                      obtain ⟨hf, rfl, hr⟩ := ht.yes
                      have HS7 : Hid (AoS w R g (g + 1) s x1 x2 t w7 q2 (.slice ao ps.length cap) ps) := HS6.out.drew.read hf hr
                      have c7 : w7.cell? ⟨g, 3, none⟩ = some (.slice ao ps.length cap) := HS7.out.hg.cell 3
                      clear hf hr ht
                      (refine hK.out _ _ trivial (fun hHeld => ?_); clear hK K; try simp only [Act.put, List.setIfInBounds_toArray, List.set_cons_zero, List.set_cons_succ])
                      (refine wpAnyH_ready (rs := [1, 6]) (by kernel_rfl) (by simp) ?_; refine ar1 (fun K hK => ?_) (ar6 (fun K hK => ?_) AllReadyH.nil) <;> go_simp)
                      · (refine hK.out _ _ trivial (fun hHeld => ?_); clear hK K; try simp only [Act.put, List.setIfInBounds_toArray, List.set_cons_zero, List.set_cons_succ])
                        (refine wpAnyH_ready (rs := [6]) (by kernel_rfl) (by simp) ?_; refine ar6 (fun K hK => ?_) AllReadyH.nil; go_simp)
                        refine (HC8.out w7 HS7.out.rd).mono ?_
                        intro e w8 ht
                        obtain ⟨hf, rfl, hr⟩ := ht.yes
                        have HS8 : Hid (AoS w R g (g + 1) s x1 x2 t w8 q3 (.slice ao ps.length cap) ps) := HS7.out.read hf hr
                        have c8 : w8.cell? ⟨g, 3, none⟩ = some (.slice ao ps.length cap) := HS8.out.hg.cell 3
                        have f8 := HS8.out.hg.free 3
                        have hgw : g < w8.heap.size := HS8.out.hg.lt
                        clear hf hr ht
                        (refine hK.out _ _ trivial (fun hHeld => ?_); clear hK K; try simp only [Act.put, List.setIfInBounds_toArray, List.set_cons_zero, List.set_cons_succ])
                        (refine tk7 (v := ?_) (by kernel_rfl) (by kernel_rfl) (by kernel_rfl) (fun _ _ _ h => h) (Or.inl ⟨by rfl, ?_⟩) (by assumption) ?_; rotate_left; (focus (intro w hSw; (try dsimp only at hSw); go_simp; (try first | (rw [dif_pos (by omega)]; simp only [Result.andThen_ok]) | rw [if_pos (by omega)]); (try with_reducible rfl); done)); try simp only [Act.put, List.setIfInBounds_toArray, List.set_cons_zero, List.set_cons_succ])
                        (refine wpAnyH_ready (rs := [8]) (by kernel_rfl) (by simp) ?_; refine ar8 (fun K hK => ?_) AllReadyH.nil; go_simp)
                        (refine hK.out _ _ trivial (fun hHeld => ?_); clear hK K; try simp only [Act.put, List.setIfInBounds_toArray, List.set_cons_zero, List.set_cons_succ])
                        (refine wpAnyH_ready (rs := [9]) (by kernel_rfl) (by simp) ?_; refine ar9 (fun K hK => ?_) AllReadyH.nil; rw [if_pos (by rfl)])
                        refine app_dt_wp _ _ (by rfl) (g + 1) _ ps ⟨L, ky, dt⟩ HS8.out.own (by rfl) w8.heap.size rfl (by rfl) HLen.out (by omega) ?_
                        intro v' w' ho' hb'
                        obtain ⟨a', n', c', rfl⟩ := ho'.isSlice
                        have HS9 : Hid _ := HS8.out.app ho' hb'
                        have k9 : w'.cell? ⟨g, 3, none⟩ = some (.slice ao ps.length cap) := (HS8.out.hg.later hb' (by omega)).cell 3
                        have l9 := (HS8.out.hg.later hb' (by omega)).free 3
                        clear ho' hb'
                        (refine hK.out _ _ trivial (fun hHeld => ?_); clear hK K; try simp only [Act.put, List.setIfInBounds_toArray, List.set_cons_zero, List.set_cons_succ])
                        (refine tk10 (v := ?_) (by kernel_rfl) (by kernel_rfl) (by kernel_rfl) (fun _ _ _ h => h) (Or.inl ⟨by rfl, ?_⟩) (by assumption) ?_; rotate_left; (focus (intro w hSw; (try dsimp only at hSw); go_simp; (try first | (rw [dif_pos (by omega)]; simp only [Result.andThen_ok]) | rw [if_pos (by omega)]); (try with_reducible rfl); done)); try simp only [Act.put, List.setIfInBounds_toArray, List.set_cons_zero, List.set_cons_succ])
                        (refine wpAnyH_ready (rs := [11]) (by kernel_rfl) (by simp) ?_; refine ar11 (fun K hK => ?_) AllReadyH.nil; go_simp)
                        (refine hK.out _ _ trivial (fun hHeld => ?_); clear hK K; try simp only [Act.put, List.setIfInBounds_toArray, List.set_cons_zero, List.set_cons_succ])
                        refine wpAnyH_done (by kernel_rfl) ?_ _
                        go_wp2
                        go_roundw
                        case rel => exact ⟨k + 1, q3, L, _, ps ++ [⟨L, ky, dt⟩], by omega, by go_num, rfl, hL0, hL1, hq3, by rw [List.length_append, HLN.out]; rfl, (fun y hy => by rcases List.mem_append.1 hy with h | h; exact HWF.out _ h; rw [List.mem_singleton.1 h]; exact ⟨by simp only; omega, by simp only; omega⟩), HS9.out, HRs2.out⟩
                        case measure => simp [intOf]; omega
                      · refine (HC8.out w7 HS7.out.rd).mono ?_
                        intro e w8 ht
                        obtain ⟨hf, rfl, hr⟩ := ht.yes
                        have HS8 : Hid (AoS w R g (g + 1) s x1 x2 t w8 q3 (.slice ao ps.length cap) ps) := HS7.out.read hf hr
                        have c8 : w8.cell? ⟨g, 3, none⟩ = some (.slice ao ps.length cap) := HS8.out.hg.cell 3
                        have f8 := HS8.out.hg.free 3
                        have hgw : g < w8.heap.size := HS8.out.hg.lt
                        clear hf hr ht
                        (refine hK.out _ _ trivial (fun hHeld => ?_); clear hK K; try simp only [Act.put, List.setIfInBounds_toArray, List.set_cons_zero, List.set_cons_succ])
                        (refine tk7 (v := ?_) (by kernel_rfl) (by kernel_rfl) (by kernel_rfl) (fun _ _ _ h => h) (Or.inl ⟨by rfl, ?_⟩) (by assumption) ?_; rotate_left; (focus (intro w hSw; (try dsimp only at hSw); go_simp; (try first | (rw [dif_pos (by omega)]; simp only [Result.andThen_ok]) | rw [if_pos (by omega)]); (try with_reducible rfl); done)); try simp only [Act.put, List.setIfInBounds_toArray, List.set_cons_zero, List.set_cons_succ])
                        (refine wpAnyH_ready (rs := [1, 8]) (by kernel_rfl) (by simp) ?_; refine ar1 (fun K hK => ?_) (ar8 (fun K hK => ?_) AllReadyH.nil) <;> go_simp)
                        · (refine hK.out _ _ trivial (fun hHeld => ?_); clear hK K; try simp only [Act.put, List.setIfInBounds_toArray, List.set_cons_zero, List.set_cons_succ])
                          (refine wpAnyH_ready (rs := [8]) (by kernel_rfl) (by simp) ?_; refine ar8 (fun K hK => ?_) AllReadyH.nil; go_simp)
                          (refine hK.out _ _ trivial (fun hHeld => ?_); clear hK K; try simp only [Act.put, List.setIfInBounds_toArray, List.set_cons_zero, List.set_cons_succ])
                          (refine wpAnyH_ready (rs := [9]) (by kernel_rfl) (by simp) ?_; refine ar9 (fun K hK => ?_) AllReadyH.nil; rw [if_pos (by rfl)])
                          refine app_dt_wp _ _ (by rfl) (g + 1) _ ps ⟨L, ky, dt⟩ HS8.out.own (by rfl) w8.heap.size rfl (by rfl) HLen.out (by omega) ?_
                          intro v' w' ho' hb'
                          obtain ⟨a', n', c', rfl⟩ := ho'.isSlice
                          have HS9 : Hid _ := HS8.out.app ho' hb'
                          have k9 : w'.cell? ⟨g, 3, none⟩ = some (.slice ao ps.length cap) := (HS8.out.hg.later hb' (by omega)).cell 3
                          have l9 := (HS8.out.hg.later hb' (by omega)).free 3
                          clear ho' hb'
                          (refine hK.out _ _ trivial (fun hHeld => ?_); clear hK K; try simp only [Act.put, List.setIfInBounds_toArray, List.set_cons_zero, List.set_cons_succ])
                          (refine tk10 (v := ?_) (by kernel_rfl) (by kernel_rfl) (by kernel_rfl) (fun _ _ _ h => h) (Or.inl ⟨by rfl, ?_⟩) (by assumption) ?_; rotate_left; (focus (intro w hSw; (try dsimp only at hSw); go_simp; (try first | (rw [dif_pos (by omega)]; simp only [Result.andThen_ok]) | rw [if_pos (by omega)]); (try with_reducible rfl); done)); try simp only [Act.put, List.setIfInBounds_toArray, List.set_cons_zero, List.set_cons_succ])
                          (refine wpAnyH_ready (rs := [11]) (by kernel_rfl) (by simp) ?_; refine ar11 (fun K hK => ?_) AllReadyH.nil; go_simp)
                          (refine hK.out _ _ trivial (fun hHeld => ?_); clear hK K; try simp only [Act.put, List.setIfInBounds_toArray, List.set_cons_zero, List.set_cons_succ])
                          refine wpAnyH_done (by kernel_rfl) ?_ _
                          go_wp2
                          go_roundw
                          case rel => exact ⟨k + 1, q3, L, _, ps ++ [⟨L, ky, dt⟩], by omega, by go_num, rfl, hL0, hL1, hq3, by rw [List.length_append, HLN.out]; rfl, (fun y hy => by rcases List.mem_append.1 hy with h | h; exact HWF.out _ h; rw [List.mem_singleton.1 h]; exact ⟨by simp only; omega, by simp only; omega⟩), HS9.out, HRs2.out⟩
                          case measure => simp [intOf]; omega
                        · (refine hK.out _ _ trivial (fun hHeld => ?_); clear hK K; try simp only [Act.put, List.setIfInBounds_toArray, List.set_cons_zero, List.set_cons_succ])
                          (refine wpAnyH_ready (rs := [1]) (by kernel_rfl) (by simp) ?_; refine ar1 (fun K hK => ?_) AllReadyH.nil; go_simp)
                          (refine hK.out _ _ trivial (fun hHeld => ?_); clear hK K; try simp only [Act.put, List.setIfInBounds_toArray, List.set_cons_zero, List.set_cons_succ])
                          (refine wpAnyH_ready (rs := [9]) (by kernel_rfl) (by simp) ?_; refine ar9 (fun K hK => ?_) AllReadyH.nil; rw [if_pos (by rfl)])
                          refine app_dt_wp _ _ (by rfl) (g + 1) _ ps ⟨L, ky, dt⟩ HS8.out.own (by rfl) w8.heap.size rfl (by rfl) HLen.out (by omega) ?_
                          intro v' w' ho' hb'
                          obtain ⟨a', n', c', rfl⟩ := ho'.isSlice
                          have HS9 : Hid _ := HS8.out.app ho' hb'
                          have k9 : w'.cell? ⟨g, 3, none⟩ = some (.slice ao ps.length cap) := (HS8.out.hg.later hb' (by omega)).cell 3
                          have l9 := (HS8.out.hg.later hb' (by omega)).free 3
                          clear ho' hb'
                          (refine hK.out _ _ trivial (fun hHeld => ?_); clear hK K; try simp only [Act.put, List.setIfInBounds_toArray, List.set_cons_zero, List.set_cons_succ])
                          (refine tk10 (v := ?_) (by kernel_rfl) (by kernel_rfl) (by kernel_rfl) (fun _ _ _ h => h) (Or.inl ⟨by rfl, ?_⟩) (by assumption) ?_; rotate_left; (focus (intro w hSw; (try dsimp only at hSw); go_simp; (try first | (rw [dif_pos (by omega)]; simp only [Result.andThen_ok]) | rw [if_pos (by omega)]); (try with_reducible rfl); done)); try simp only [Act.put, List.setIfInBounds_toArray, List.set_cons_zero, List.set_cons_succ])
                          (refine wpAnyH_ready (rs := [11]) (by kernel_rfl) (by simp) ?_; refine ar11 (fun K hK => ?_) AllReadyH.nil; go_simp)
                          (refine hK.out _ _ trivial (fun hHeld => ?_); clear hK K; try simp only [Act.put, List.setIfInBounds_toArray, List.set_cons_zero, List.set_cons_succ])
                          refine wpAnyH_done (by kernel_rfl) ?_ _
                          go_wp2
                          go_roundw
                          case rel => exact ⟨k + 1, q3, L, _, ps ++ [⟨L, ky, dt⟩], by omega, by go_num, rfl, hL0, hL1, hq3, by rw [List.length_append, HLN.out]; rfl, (fun y hy => by rcases List.mem_append.1 hy with h | h; exact HWF.out _ h; rw [List.mem_singleton.1 h]; exact ⟨by simp only; omega, by simp only; omega⟩), HS9.out, HRs2.out⟩
                          case measure => simp [intOf]; omega
            · have hkn : k = n := by omega
              have HMM : Hid (rdA s = if p = s.size then some ((x1, x2, t), ps) else none) := by
                show _ = _
                rw [HM5.out, HRs.out, hkn, Nat.sub_self, restT_zero]
                rfl
              clear HRs HM5
              have HL : Hid (∀ _ : Unit, _) := fun _ => leftI R s p wr HSk.out.rd hsz
              by_cases hp : p < s.size
              · rw [decide_eq_true hp] at HL
                have HNo : Hid (rdA s = none) := HMM.out.trans (if_neg (by omega))
                go_wp2_with fail
                refine (HL.out ()).mono ?_
                rintro e w6 ⟨rfl, nq, rfl⟩
                go_wp2_with fail
                refine (giveUpI_yes 125 _).mono ?_
                rintro e w7 ⟨rfl, rfl⟩
                exact ⟨rfl, AoC.no (HSk.out.drewN nq).bel (HN.out HNo.out)⟩
              · rw [decide_eq_false hp] at HL
                have HYe : Hid (rdA s = some ((x1, x2, t), ps)) := HMM.out.trans (if_pos (by omega))
                go_wp2_with fail
                refine (HL.out ()).mono ?_
                rintro e w6 ⟨rfl, nq, rfl⟩
                have hS6 := HSk.out.drewN nq
                generalize wr.drewN nq = w6 at *
                have HS6 : Hid (AoS w R g (g + 1) s x1 x2 t w6 p v ps) := hS6
                clear hS6 HSk HL HMM
                obtain ⟨ao, cap, rfl, -, -⟩ := HS6.out.own.slice
                have c0 : w6.cell? ⟨g, 0, none⟩ = some (.int .i64 x1) := HS6.out.hg.cell 0
                have c1 : w6.cell? ⟨g, 1, none⟩ = some (.int .u64 x2) := HS6.out.hg.cell 1
                have c2 : w6.cell? ⟨g, 2, none⟩ = some (.int .u64 t) := HS6.out.hg.cell 2
                have c3 : w6.cell? ⟨g, 3, none⟩ = some (.slice ao ps.length cap) := HS6.out.hg.cell 3
                have c4 : w6.cell? ⟨g, 4, none⟩ = some (.int .i64 0) := HS6.out.hg.cell 4
                have c5 : w6.cell? ⟨g, 5, none⟩ = some (.slice none 0 0) := HS6.out.hg.cell 5
                have HMb : Hid (∀ _ : Unit, _) := fun _ => mayBeData_any w6 x1 0 x2 t ao none 0 cap 0 ps HS6.out.own.sees
                go_wp2_with fail
                refine (HMb.out ()).mono ?_
                rintro e w7 ⟨c, rfl, hiff, hb7⟩
                have HIF : Hid (c = true ↔ mayA x1 x2 t ps) := hiff
                have HB7 : Hid (Below w6.heap.size w6 w7) := hb7
                clear hiff hb7 HMb c0 c1 c2 c3 c4 c5
                cases c
                · have HNm : Hid (¬ mayA x1 x2 t ps) := fun h => by have := HIF.out.2 h; cases this
                  go_wp2_with fail
                  refine (giveUpI_yes 125 _).mono ?_
                  rintro e w8 ⟨rfl, rfl⟩
                  refine ⟨rfl, AoC.no (HS6.out.bel.trans (HB7.out.mono HS6.out.bel.size)) (.inr ⟨HOP.out, rfl, fun a1 a2 a3 a4 h => ?_⟩)⟩
                  rw [HSS.out, HYe.out] at h
                  injection h with h
                  injection h with ha hd
                  injection ha with ha hb
                  injection hb with hb hc
                  subst ha hb hc hd
                  exact HNm.out
                · have HYm : Hid (mayA x1 x2 t ps) := HIF.out.1 rfl
                  go_wp2_with fail
                  refine (giveUpI_no 125 _).mono ?_
                  rintro e w8 ⟨rfl, rfl⟩
                  have HG8 : Hid (Fp6 w8 g (.int .i64 x1) (.int .u64 x2) (.int .u64 t) (.slice ao ps.length cap) (.int .i64 0) (.slice none 0 0)) := HS6.out.hg.later HB7.out HS6.out.hg.lt
                  have HZ8 : Hid (Fp6 w8 w.heap.size (.int .i64 0) (.int .u64 0) (.int .u64 0) (.slice none 0 0) (.int .i64 0) (.slice none 0 0)) := HS6.out.z.later HB7.out HS6.out.z.lt
                  have HO8 : Hid (ownT w8 (g + 1) (.slice ao ps.length cap) ps) := HS6.out.own.later HB7.out
                  have HB8 : Hid (Below w.heap.size w w8) := HS6.out.bel.trans (HB7.out.mono HS6.out.bel.size)
                  have hzg := HS6.out.r2
                  have hzn : w.heap.size ≠ g := by omega
                  have c0 : w8.cell? ⟨g, 0, none⟩ = some (.int .i64 x1) := HG8.out.cell 0
                  have c1 : w8.cell? ⟨g, 1, none⟩ = some (.int .u64 x2) := HG8.out.cell 1
                  have c2 : w8.cell? ⟨g, 2, none⟩ = some (.int .u64 t) := HG8.out.cell 2
                  have c3 : w8.cell? ⟨g, 3, none⟩ = some (.slice ao ps.length cap) := HG8.out.cell 3
                  have c4 : w8.cell? ⟨g, 4, none⟩ = some (.int .i64 0) := HG8.out.cell 4
                  have c5 : w8.cell? ⟨g, 5, none⟩ = some (.slice none 0 0) := HG8.out.cell 5
                  have z0 : w8.cell? ⟨w.heap.size, 0, none⟩ = some (.int .i64 0) := HZ8.out.cell 0
                  have z1 : w8.cell? ⟨w.heap.size, 1, none⟩ = some (.int .u64 0) := HZ8.out.cell 1
                  have z2 : w8.cell? ⟨w.heap.size, 2, none⟩ = some (.int .u64 0) := HZ8.out.cell 2
                  have z3 : w8.cell? ⟨w.heap.size, 3, none⟩ = some (.slice none 0 0) := HZ8.out.cell 3
                  have z4 : w8.cell? ⟨w.heap.size, 4, none⟩ = some (.int .i64 0) := HZ8.out.cell 4
                  have z5 : w8.cell? ⟨w.heap.size, 5, none⟩ = some (.slice none 0 0) := HZ8.out.cell 5
                  have o0 := HZ8.out.free 0
                  have o1 := HZ8.out.free 1
                  have o2 := HZ8.out.free 2
                  have o3 := HZ8.out.free 3
                  have o4 := HZ8.out.free 4
                  have o5 := HZ8.out.free 5
                  go_wp2
                  refine bodyPost_ret (ret_fp rfl _ _ _ _ _ _ _ _ w.heap.size (by rfl) (HZ8.out.setAll _ _ _ _ _ _)) rfl ⟨?_, .inl ⟨x1, x2, t, ps, _, ⟨HOP.out, by rw [HSS.out]; exact HYe.out, HYm.out, HWF.out, lb2⟩, rfl, ?_⟩⟩
                  · exact (((((HB8.out.setCell (p := ⟨w.heap.size, 0, none⟩) (Nat.le_refl _) _).setCell (p := ⟨w.heap.size, 1, none⟩) (Nat.le_refl _) _).setCell (p := ⟨w.heap.size, 2, none⟩) (Nat.le_refl _) _).setCell (p := ⟨w.heap.size, 3, none⟩) (Nat.le_refl _) _).setCell (p := ⟨w.heap.size, 4, none⟩) (Nat.le_refl _) _).setCell (p := ⟨w.heap.size, 5, none⟩) (Nat.le_refl _) _
                  · refine (HO8.out.same fun k hk hB => ?_).mono (by omega)
                    have hne : k ≠ w.heap.size := by omega
                    exact (Below.heap_setCell _ _ _ k hne).trans ((Below.heap_setCell _ _ _ k hne).trans ((Below.heap_setCell _ _ _ k hne).trans ((Below.heap_setCell _ _ _ k hne).trans ((Below.heap_setCell _ _ _ k hne).trans (Below.heap_setCell _ _ _ k hne)))))
end Go.Proofs.YtbfjnidpjmhfiaaGreatDoor

namespace Go.Proofs.YtbfjnidpjmhfiaaGreatDoor
set_option linter.unusedSimpArgs false
open Go.ChangeShapes Go.WideShapes Go.ChangeAt Go.RowKit
set_option linter.unusedVariables false
set_option maxRecDepth 100000
theorem Fp6.drewA {W : World} {g : Nat} {a b c d e f : Value} (h : Fp6 W g a b c d e f) : Fp6 W.drew g a b c d e f := h
set_option maxHeartbeats 1600000 in
theorem catchDa (c : Int) (bC bE : Nat) (a b d f x y z : Value) (older : List PanicEntry) (w : World)
    (hC : Fp6 w bC a b d f x y) (hE : w.cell? ⟨bE, 0, none⟩ = some z) (fE : w.frozen? ⟨bE, 0, none⟩ = false) (n5 : bC ≠ bE) :
    CallsD Tryz.prog 33 #[.pointer (some ⟨bC, 0, none⟩), .pointer (some ⟨bE, 0, none⟩)] (.panicking ({ v := .iface 37 (.int .i64 c), recovered := false } :: older)) w fun e u' w' =>
      e = .returned (.tuple #[]) ∧ u' = .panicking ({ v := .iface 37 (.int .i64 c), recovered := true } :: older) ∧ Fp6 w' bC (.int .i64 0) (.int .u64 0) (.int .u64 0) (.slice none 0 0) (.int .i64 0) (.slice none 0 0) ∧ w'.cell? ⟨bE, 0, none⟩ = some (.int .i64 c) ∧ (∀ B, B ≤ bC → B ≤ bE → Below B w w') := by
  have k0 : w.cell? ⟨bC, 0, none⟩ = some a := hC.cell 0
  have k1 : w.cell? ⟨bC, 1, none⟩ = some b := hC.cell 1
  have k2 : w.cell? ⟨bC, 2, none⟩ = some d := hC.cell 2
  have k3 : w.cell? ⟨bC, 3, none⟩ = some f := hC.cell 3
  have k4 : w.cell? ⟨bC, 4, none⟩ = some x := hC.cell 4
  have k5 : w.cell? ⟨bC, 5, none⟩ = some y := hC.cell 5
  have f0 := hC.free 0
  have f1 := hC.free 1
  have f2 := hC.free 2
  have f3 := hC.free 3
  have f4 := hC.free 4
  have f5 := hC.free 5
  have HC : Hid (Fp6 w bC a b d f x y) := hC
  clear hC
  refine callsD_of_wpS Tryz.func33 rfl fun c₀ cs hu => ?_
  apply wpS_seq
  apply wpS_region
  simp [wpOpsS, go_sem, recoverD, hu, Tryz.ntmps33, Exit.thenS]
  refine wpS_of_wp ?_
  simp only [Array.replicate, List.replicate, List.setIfInBounds_toArray, List.set_cons_zero, List.set_cons_succ, List.append_toArray, List.cons_append, List.nil_append]
  go_wp2
  have hta := assert_errno
  go_region
  change bodyPostS _ _ _ _ _ _ _ _ _
  refine ⟨rfl, _, rfl, _, results_none rfl _ _ _, rfl, rfl, ?_, ?_, ?_⟩
  · have h1 := HC.out.setAll (.int .i64 0) (.int .u64 0) (.int .u64 0) (.slice none 0 0) (.int .i64 0) (.slice none 0 0)
    have h2 := h1.other (p := ⟨bE, 0, none⟩) (.int .i64 c) n5
    exact h2.drewA
  · simp [go_sem, hE]
  · intro B h1 h3
    exact ((((((((Below.refl _ _).setCell h1 _).setCell h1 _).setCell h1 _).setCell h1 _).setCell h1 _).setCell h1 _).setCell h3 _) |>.drew
theorem idleDa (pA pV : Addr) (w : World) :
    CallsD Tryz.prog 33 #[.pointer (some pA), .pointer (some pV)] .returning w fun e u' w' => e = .returned (.tuple #[]) ∧ u' = .returning ∧ w' = w := by
  refine callsD_of_wpS Tryz.func33 rfl fun c₀ cs hu => ?_
  apply wpS_seq
  apply wpS_region
  simp [wpOpsS, go_sem, recoverD, hu, Tryz.ntmps33, Exit.thenS]
  refine wpS_of_wp ?_
  simp only [Array.replicate, List.replicate, List.setIfInBounds_toArray, List.set_cons_zero, List.set_cons_succ, List.append_toArray, List.cons_append, List.nil_append]
  go_wp2
  change bodyPostS _ _ _ _ _ _ _ _ _
  cases c₀
  simp only at hu
  subst hu
  exact ⟨rfl, _, rfl, _, results_none rfl _ _ _, rfl, rfl, rfl⟩
theorem ret_da2 {fn : Func} {p u : Tmp} (h : fn.results = #[.cell p 26, .cell u 37]) (tmps : Array Value) (w : World) (a b d : Int) (f : Value) (x : Int) (y : Value) (c : Int) (g gu : Nat) (hp : tmps.getD p undef = .pointer (some ⟨g, 0, none⟩)) (hu : tmps.getD u undef = .pointer (some ⟨gu, 0, none⟩))
    (hg : Fp6 w g (.int .i64 a) (.int .u64 b) (.int .u64 d) f (.int .i64 x) y) (cu : w.cell? ⟨gu, 0, none⟩ = some (.int .i64 c)) :
    (results fn tmps).run Tryz.prog w = .ok (.tuple #[.agg #[.int .i64 a, .int .u64 b, .int .u64 d, f, .int .i64 x, y], .int .i64 c]) w := by
  have hp' : tmps[p]?.getD undef = .pointer (some ⟨g, 0, none⟩) := by simpa using hp
  have hu' : tmps[u]?.getD undef = .pointer (some ⟨gu, 0, none⟩) := by simpa using hu
  have q0 : w.cell? ⟨g, 0, none⟩ = some (.int .i64 a) := hg.cell 0
  have q1 : w.cell? ⟨g, 1, none⟩ = some (.int .u64 b) := hg.cell 1
  have q2 : w.cell? ⟨g, 2, none⟩ = some (.int .u64 d) := hg.cell 2
  have q3 : w.cell? ⟨g, 3, none⟩ = some f := hg.cell 3
  have q4 : w.cell? ⟨g, 4, none⟩ = some (.int .i64 x) := hg.cell 4
  have q5 : w.cell? ⟨g, 5, none⟩ = some y := hg.cell 5
  simp [results, h, hp', hu', asAddr, go_sem, q0, q1, q2, q3, q4, q5, cu]
/-- What DecodeData answers. -/
def AdC (w : World) (b : ByteArray) (e : Ending) (w' : World) : Prop :=
  Below w.heap.size w w' ∧ ((∃ id lo hi ps v, AoYes b id lo hi ps ∧ e = .returned (.tuple #[.agg #[.int .i64 id, .int .u64 lo, .int .u64 hi, v, .int .i64 0, .slice none 0 0], .int .i64 0]) ∧ ownT w' w.heap.size v ps) ∨ ∃ c, AoNo b c ∧ e = .returned (.tuple #[.agg #[.int .i64 0, .int .u64 0, .int .u64 0, .slice none 0 0, .int .i64 0, .slice none 0 0], .int .i64 c]))
set_option maxHeartbeats 3200000 in
theorem decDat_any (w : World) (b : ByteArray) (hs : b.size ≤ 1125899906842624) (hT : HalfAt w) : Calls Tryz.prog 12 #[.string b] w (AdC w b) := by
  have hmf : ∀ (fn : Fn) (first cap : Array Value) (w : World), (Instr.makeFunc fn first cap).run Tryz.prog w = .ok (.func fn first cap) w := fun _ _ _ _ => rfl
  have HBw : Hid (Below w.heap.size w ((w.alloc (.cells #[.int .i64 0, .int .u64 0, .int .u64 0, .slice none 0 0, .int .i64 0, .slice none 0 0] 26)).alloc (.cells #[.int .i64 0] 37))) := ((Below.refl _ _).alloc (Nat.le_refl _) _).alloc (by simp) _
  have HZ : Hid (Fp6 ((w.alloc (.cells #[.int .i64 0, .int .u64 0, .int .u64 0, .slice none 0 0, .int .i64 0, .slice none 0 0] 26)).alloc (.cells #[.int .i64 0] 37)) w.heap.size (.int .i64 0) (.int .u64 0) (.int .u64 0) (.slice none 0 0) (.int .i64 0) (.slice none 0 0)) := (Below.heap_alloc _ _ _ (by simp)).trans (heap_alloc_new w _)
  have hE : ((w.alloc (.cells #[.int .i64 0, .int .u64 0, .int .u64 0, .slice none 0 0, .int .i64 0, .slice none 0 0] 26)).alloc (.cells #[.int .i64 0] 37)).cell? ⟨w.heap.size + 1, 0, none⟩ = some (.int .i64 0) := by simp [go_sem]
  have fE : ((w.alloc (.cells #[.int .i64 0, .int .u64 0, .int .u64 0, .slice none 0 0, .int .i64 0, .slice none 0 0] 26)).alloc (.cells #[.int .i64 0] 37)).frozen? ⟨w.heap.size + 1, 0, none⟩ = false := by simp [go_sem]
  have hsz : ((w.alloc (.cells #[.int .i64 0, .int .u64 0, .int .u64 0, .slice none 0 0, .int .i64 0, .slice none 0 0] 26)).alloc (.cells #[.int .i64 0] 37)).heap.size = w.heap.size + 2 := by simp
  have HT : Hid (HalfAt ((w.alloc (.cells #[.int .i64 0, .int .u64 0, .int .u64 0, .slice none 0 0, .int .i64 0, .slice none 0 0] 26)).alloc (.cells #[.int .i64 0] 37))) := hT.later HBw.out
  have HE : Hid _ := hE
  have HFE : Hid _ := fE
  clear hE fE hT
  go_enter_defers Tryz.func12, Tryz.ntmps12
  go_wp2_with fail
  generalize (w.alloc (.cells #[.int .i64 0, .int .u64 0, .int .u64 0, .slice none 0 0, .int .i64 0, .slice none 0 0] 26)).alloc (.cells #[.int .i64 0] 37) = W2 at *
  refine (dataOf_any W2 b hs HT.out).mono ?_
  rintro e w3 ⟨hb, hm⟩
  have HZ3 : Hid (Fp6 w3 w.heap.size (.int .i64 0) (.int .u64 0) (.int .u64 0) (.slice none 0 0) (.int .i64 0) (.slice none 0 0)) := HZ.out.later hb HZ.out.lt
  have hE3 := (hb.cell (p := ⟨w.heap.size + 1, 0, none⟩) (by simp only; omega)).trans HE.out
  have fE3 := (hb.frozen (p := ⟨w.heap.size + 1, 0, none⟩) (by simp only; omega)).trans HFE.out
  have HB3 : Hid (Below w.heap.size w w3) := HBw.out.trans (hb.mono HBw.out.size)
  clear hb HE HFE HBw HZ HT
  rcases hm with ⟨id, lo, hi, ps, v, hy, rfl, hown⟩ | ⟨c, hn, rfl⟩
  · have HY : Hid (AoYes b id lo hi ps) := hy
    have HO : Hid (ownT w3 W2.heap.size v ps) := hown
    obtain ⟨a', n', c', rfl⟩ := hown.isSlice
    clear hown hy
    have z0 : w3.cell? ⟨w.heap.size, 0, none⟩ = some (.int .i64 0) := HZ3.out.cell 0
    have z1 : w3.cell? ⟨w.heap.size, 1, none⟩ = some (.int .u64 0) := HZ3.out.cell 1
    have z2 : w3.cell? ⟨w.heap.size, 2, none⟩ = some (.int .u64 0) := HZ3.out.cell 2
    have z3 : w3.cell? ⟨w.heap.size, 3, none⟩ = some (.slice none 0 0) := HZ3.out.cell 3
    have z4 : w3.cell? ⟨w.heap.size, 4, none⟩ = some (.int .i64 0) := HZ3.out.cell 4
    have z5 : w3.cell? ⟨w.heap.size, 5, none⟩ = some (.slice none 0 0) := HZ3.out.cell 5
    have o0 := HZ3.out.free 0
    have o1 := HZ3.out.free 1
    have o2 := HZ3.out.free 2
    have o3 := HZ3.out.free 3
    have o4 := HZ3.out.free 4
    have o5 := HZ3.out.free 5
    go_wp2
    refine leaves_cons (f := 33) (args := #[.pointer (some ⟨w.heap.size, 0, none⟩), .pointer (some ⟨w.heap.size + 1, 0, none⟩)]) (by simp) (by simp [go_sem]) ?_
    refine (idleDa _ _ _).mono ?_
    rintro e u' w4 ⟨rfl, rfl, rfl⟩
    have h1 := (HZ3.out.setAll (.int .i64 id) (.int .u64 lo) (.int .u64 hi) (.slice a' n' c') (.int .i64 0) (.slice none 0 0)).other (p := ⟨w.heap.size + 1, 0, none⟩) (.int .i64 0) (by simp only; omega)
    refine ⟨.tuple #[.agg #[.int .i64 id, .int .u64 lo, .int .u64 hi, .slice a' n' c', .int .i64 0, .slice none 0 0], .int .i64 0], ret_da2 rfl _ _ _ _ _ _ _ _ _ _ _ (by rfl) (by rfl) h1 (by simp [go_sem, hE3]), ?_, .inl ⟨id, lo, hi, ps, _, HY.out, rfl, ?_⟩⟩
    · exact ((((((HB3.out.setCell (p := ⟨w.heap.size, 0, none⟩) (Nat.le_refl _) _).setCell (p := ⟨w.heap.size, 1, none⟩) (Nat.le_refl _) _).setCell (p := ⟨w.heap.size, 2, none⟩) (Nat.le_refl _) _).setCell (p := ⟨w.heap.size, 3, none⟩) (Nat.le_refl _) _).setCell (p := ⟨w.heap.size, 4, none⟩) (Nat.le_refl _) _).setCell (p := ⟨w.heap.size, 5, none⟩) (Nat.le_refl _) _).setCell (p := ⟨w.heap.size + 1, 0, none⟩) (by simp only; omega) _
    · refine (HO.out.same fun k hk hB => ?_).mono (by omega)
      have hne : k ≠ w.heap.size := by omega
      have hne2 : k ≠ w.heap.size + 1 := by omega
      exact (Below.heap_setCell _ _ _ k hne2).trans ((Below.heap_setCell _ _ _ k hne).trans ((Below.heap_setCell _ _ _ k hne).trans ((Below.heap_setCell _ _ _ k hne).trans ((Below.heap_setCell _ _ _ k hne).trans ((Below.heap_setCell _ _ _ k hne).trans (Below.heap_setCell _ _ _ k hne))))))
  · refine leaves_cons (f := 33) (args := #[.pointer (some ⟨w.heap.size, 0, none⟩), .pointer (some ⟨w.heap.size + 1, 0, none⟩)]) (by simp) (by simp [go_sem]) ?_
    refine (catchDa c _ _ _ _ _ _ _ _ _ [] _ HZ3.out hE3 fE3 (by omega)).mono ?_
    rintro e u' w4 ⟨rfl, rfl, dV, dE, hb2⟩
    refine ⟨.tuple #[.agg #[.int .i64 0, .int .u64 0, .int .u64 0, .slice none 0 0, .int .i64 0, .slice none 0 0], .int .i64 c], ret_da2 rfl _ _ _ _ _ _ _ _ _ _ _ (by rfl) (by rfl) dV dE, ?_, .inr ⟨c, hn, rfl⟩⟩
    exact HB3.out.trans (hb2 _ (by omega) (by omega))
end Go.Proofs.YtbfjnidpjmhfiaaGreatDoor

namespace Go.Proofs.YtbfjnidpjmhfiaaGreatDoor
set_option linter.unusedSimpArgs false
open Go.ChangeShapes Go.WideShapes Go.ChangeAt Go.RowKit
set_option linter.unusedVariables false
set_option maxRecDepth 100000
theorem encT_bytes {lo hi last : Int} {p : DT} (hm : mayT lo hi p) (hl : last ≤ p.beg) (h0 : 0 ≤ last) (hh : hi ≤ 4611686018427387903) : ∀ x ∈ encT last p, 0 ≤ x ∧ x < 256 := by
  obtain ⟨m1, m2, m3, m4, m5⟩ := hm
  unfold encT
  exact bytes_app (uvB_bytes _ (by omega) (by omega)) (bytes_app (blB_bytes _ (by omega)) (blB_bytes _ (by omega)))
theorem encTs_bytes {lo hi : Int} (hh : hi ≤ 4611686018427387903) : ∀ (ps : List DT) (last : Int), 0 ≤ last → okTs lo hi last ps → ∀ x ∈ encTs last ps, 0 ≤ x ∧ x < 256
  | [], _, _, _, x, h => by cases h
  | p :: ps, last, h0, ⟨o1, o2, o3⟩, x, h => bytes_app (encT_bytes o2 o1 h0 hh) (encTs_bytes hh ps p.beg (by omega) o3) x h
theorem encA_bytes {id lo hi : Int} {ps : List DT} (h0 : 0 ≤ lo) (hm : mayA id lo hi ps) : ∀ x ∈ encA id lo hi ps, 0 ≤ x ∧ x < 256 := by
  have hf := mayA_from hm
  obtain ⟨⟨g1, g2⟩, ⟨n1, n2⟩, l1, _⟩ := hm
  unfold encA
  exact bytes_app (uvB_bytes _ (by omega) (by omega)) (bytes_app (uvB_bytes _ (by omega) (by omega)) (bytes_app (uvB_bytes _ (by omega) (by omega)) (bytes_app (uvB_bytes _ (by omega) (by omega)) (encTs_bytes n2 ps lo h0 hf))))
theorem mgDa_bytes : ∀ x ∈ mgDa, 0 ≤ x ∧ x < 256 := by decide
theorem mgAB_str : mgAB = strOfNums mgDa := by decide
theorem AoYes.seal {b : ByteArray} {id lo hi : Int} {ps : List DT} (h : AoYes b id lo hi ps) : sealM mgDa (encA id lo hi ps) = b := by
  obtain ⟨h0, hr, hm, hw, hlo⟩ := h
  obtain ⟨h12, hg, hc⟩ := opE_parts h0
  have hsz : (b.extract 0 (b.size - 4)).size = b.size - 4 := by rw [ByteArray.size_extract]; omega
  obtain ⟨f1, f2, -⟩ := rdA_form (by omega) hr
  have e1 := has_ext (encA_bytes hlo hm) (by omega) f1
  rw [← f2] at e1
  have e2 : (b.extract 0 (b.size - 4)).extract 0 8 = strOfNums mgDa := by
    rw [← mgAB_str, ← hg, ByteArray.extract_extract]
    congr 1
    omega
  have e3 : b.extract 0 (b.size - 4) = strOfNums (mgDa ++ encA id lo hi ps) := by
    rw [strApp, ← e1, ← e2]
    exact split_at _ 8 (by omega)
  have e4 := (fx4_iff b (b.size - 4) _ (by omega) (by unfold crN; omega)).1 hc
  unfold sealM
  rw [← e3, e4]
  exact (split_at b (b.size - 4) (by omega)).symm
theorem sealA_parts {b : ByteArray} {l : List Int} (h : sealM mgDa l = b) : b.size = 12 + l.length ∧ b.extract 0 (b.size - 4) = strOfNums (mgDa ++ l) := by
  have hz : (strOfNums (mgDa ++ l)).size = 8 + l.length := by rw [strOfNums_size, List.length_append]; rfl
  have hb : b.size = 12 + l.length := by
    rw [← h]
    unfold sealM
    rw [ByteArray.size_append, hz, strOfNums_size, fxB_len]
    omega
  refine ⟨hb, ?_⟩
  rw [hb, show 12 + l.length - 4 = (strOfNums (mgDa ++ l)).size from by omega, ← h]
  unfold sealM
  exact ByteArray.extract_append_eq_left rfl
theorem sealA_has {b : ByteArray} {l : List Int} (hl : ∀ x ∈ l, 0 ≤ x ∧ x < 256) (h : sealM mgDa l = b) : HasAt (b.extract 0 (b.size - 4)) 8 l := by
  rw [(sealA_parts h).2]
  intro i hi
  obtain ⟨g, hg⟩ := nums_get (mgDa ++ l) (bytes_app mgDa_bytes hl) (8 + i) (by rw [List.length_append]; show _ < 8 + _; omega)
  refine ⟨g, ?_⟩
  rw [hg, List.getElem_append_right (by show 8 ≤ _; omega)]
  congr 1
  show 8 + i - 8 = i
  omega
theorem AoYes.of {b : ByteArray} {id lo hi : Int} {ps : List DT} (h0 : opE b mgAB = 0) (hlo : 0 ≤ lo) (hm : mayA id lo hi ps) (hw : ∀ p ∈ ps, p.wf) (h : sealM mgDa (encA id lo hi ps) = b) : AoYes b id lo hi ps := by
  have hp := (sealA_parts h).1
  have hsz : (b.extract 0 (b.size - 4)).size = b.size - 4 := by rw [ByteArray.size_extract]; omega
  exact ⟨h0, rdA_back (by omega) hlo hm (sealA_has (encA_bytes hlo hm) h) (by omega), hm, hw, hlo⟩
theorem AoYes.has {b : ByteArray} {id lo hi : Int} {ps : List DT} (h : AoYes b id lo hi ps) : HasAt (b.extract 8 (b.size - 4)) 0 (encA id lo hi ps) := by
  have hp := (sealA_parts h.seal).1
  exact has_shift (by omega) (sealA_has (encA_bytes h.2.2.2.2 h.2.2.1) h.seal) (by omega)
end Go.Proofs.YtbfjnidpjmhfiaaGreatDoor
