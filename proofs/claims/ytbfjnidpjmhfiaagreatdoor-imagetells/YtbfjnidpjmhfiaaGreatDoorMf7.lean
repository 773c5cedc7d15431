import Derived.Test.YtbfjnidpjmhfiaaGreatDoorMf1
import Derived.OwnWalk
import Derived.Laws.OwnMore
import Derived.Laws.Rows
import Derived.Maps.OwnSet
import Derived.Maps.OwnOps
import Derived.Maps.Views
import Derived.Test.YtbfjnidpjmhfiaaGreatDoorRegG
import Derived.Test.YtbfjnidpjmhfiaaGreatDoorMf6
namespace Go.Proofs.YtbfjnidpjmhfiaaGreatDoor
set_option linter.unusedSimpArgs false
open Go.ChangeShapes Go.WideShapes Go.ChangeAt Go.RowKit Go.Maps
set_option linter.unusedVariables false
set_option maxRecDepth 100000
/-- A pair lies in eight cells. -/
structure PnAt (w : World) (b o : Nat) (p : PN) : Prop where
  c0 : w.cell? ⟨b, o, none⟩ = some (.int .i64 p.id)
  c1 : w.cell? ⟨b, o + 1, none⟩ = some (.int .u64 p.lo)
  c2 : w.cell? ⟨b, o + 2, none⟩ = some (.int .u64 p.hi)
  c3 : w.cell? ⟨b, o + 3, none⟩ = some (.int .i64 p.rows)
  c4 : w.cell? ⟨b, o + 4, none⟩ = some (.int .i64 p.gen)
  c5 : w.cell? ⟨b, o + 5, none⟩ = some (.int .i64 p.gone)
  c6 : w.cell? ⟨b, o + 6, none⟩ = some (.int .u32 p.ds)
  c7 : w.cell? ⟨b, o + 7, none⟩ = some (.int .u32 p.es)
theorem PnAt.later {w w' : World} {B b o : Nat} {p : PN} (h : PnAt w b o p) (hb : Below B w w') (hB : b < B) : PnAt w' b o p :=
  ⟨(hb.cell hB).trans h.c0, (hb.cell hB).trans h.c1, (hb.cell hB).trans h.c2, (hb.cell hB).trans h.c3, (hb.cell hB).trans h.c4, (hb.cell hB).trans h.c5, (hb.cell hB).trans h.c6, (hb.cell hB).trans h.c7⟩
/-- The pairs ps lie at ao, in blocks below B. -/
def SeesP (w : World) (B : Nat) (ao : Option Addr) (ps : List PN) : Prop := ∀ i (hi : i < ps.length), ∃ b off, ao = some ⟨b, off, none⟩ ∧ b < B ∧ PnAt w b (off + i * 8) ps[i]
theorem SeesP.later {w w' : World} {B : Nat} {ao : Option Addr} {ps : List PN} (h : SeesP w B ao ps) (hb : Below B w w') : SeesP w' B ao ps := fun i hi => by
  obtain ⟨b, off, e, hbB, c⟩ := h i hi
  exact ⟨b, off, e, hbB, c.later hb hbB⟩
def inK (ps : List PN) (k : Nat) (x : Int) : Bool := (ps.take k).any (fun p => decide (p.id = x))
def cntK (ps : List PN) (k : Nat) (x : Int) : Int := if inK ps k x then 1 else 0
theorem inK_step {ps : List PN} {k : Nat} (hk : k < ps.length) (x : Int) : inK ps (k + 1) x = (inK ps k x || decide (ps[k].id = x)) := by
  unfold inK
  rw [List.take_succ_eq_append_getElem hk, List.any_append]
  simp
theorem inK_yes {ps : List PN} {k : Nat} {x : Int} (hk : k ≤ ps.length) (h : inK ps k x = true) : ∃ j, ∃ hj : j < ps.length, j < k ∧ ps[j].id = x := by
  unfold inK at h
  obtain ⟨p, hp, e⟩ := List.any_eq_true.1 h
  obtain ⟨j, hj, rfl⟩ := List.mem_iff_getElem.1 hp
  rw [List.length_take] at hj
  refine ⟨j, by omega, by omega, ?_⟩
  rw [List.getElem_take] at e
  simpa using e
theorem inK_no {ps : List PN} {k : Nat} {x : Int} (h : inK ps k x = false) : ∀ j (hj : j < ps.length), j < k → ps[j].id ≠ x := by
  intro j hj hjk e
  have : inK ps k x = true := by
    unfold inK
    refine List.any_eq_true.2 ⟨ps[j], ?_, by simpa using e⟩
    rw [List.mem_iff_getElem]
    exact ⟨j, by rw [List.length_take]; omega, by rw [List.getElem_take]⟩
  rw [this] at h
  cases h
theorem lawN : Keyed Tryz.prog 3 := int_keyed Tryz.underlying3
theorem keyN {x : Int} (h : (Lit.int .i64 x).wf = true) : keyOf Tryz.prog 3 (.int .i64 x) = some (.int .i64 x) := keyOf_int_mk Tryz.underlying3 h
theorem zeroN (w : World) : (zeroValue 3).run Tryz.prog w = .ok (.int .i64 0) w := by kernel_rfl
theorem wfI {x : Int} (h0 : -9223372036854775808 ≤ x) (h1 : x ≤ 9223372036854775807) : (Lit.int .i64 x).wf = true := by
  show (decide (-9223372036854775808 ≤ x) && decide (x ≤ 9223372036854775807)) = true
  simp [h0, h1]
/-- The map at mb counts the numbers of the first k pairs. -/
def Cnt (w : World) (mb k : Nat) (ps : List PN) : Prop := ∃ D : DataW Unit, w.ownsMap Tryz.prog 3 (plainElem Tryz.prog 3) mb k D ∧ IsMap D ∧ ∀ x, D.atKey (.int .i64 x) (.lit (.int .i64 0)) = .lit (.int .i64 (cntK ps k x))
theorem cnt_new (w : World) (ps : List PN) : Cnt (w.alloc (.map #[] 0)) w.heap.size 0 ps := ⟨.map [], World.ownsMap_made w _ _ _, ⟨[], rfl⟩, fun x => by simp [cntK, inK]; rfl⟩
theorem Cnt.alloc {w : World} {mb k : Nat} {ps : List PN} (h : Cnt w mb k ps) (o : Obj) : Cnt (w.alloc o) mb k ps := by
  obtain ⟨D, h1, h2, h3⟩ := h
  exact ⟨D, h1.alloc o, h2, h3⟩
theorem Cnt.keep {w w' : World} {mb k : Nat} {ps : List PN} (h : Cnt w mb k ps) (hb : Below w.heap.size w w') : Cnt w' mb k ps := by
  obtain ⟨D, ⟨es, clock, h1, h4⟩, h2, h3⟩ := h
  exact ⟨D, ⟨es, clock, (hb.block mb (Array.getElem?_eq_some_iff.1 h1).1).trans h1, h4⟩, h2, h3⟩
theorem Cnt.look {w : World} {mb k : Nat} {ps : List PN} (h : Cnt w mb k ps) {x : Int} (hx : (Lit.int .i64 x).wf = true) : (Instr.lookup 107 (.map (some mb)) (.int .i64 x) false).run Tryz.prog w = .ok (.int .i64 (cntK ps k x)) w := by
  obtain ⟨D, h1, h2, h3⟩ := h
  obtain ⟨c, hrun, hat, _⟩ := h1.lookup_int lawN Tryz.underlying107 Tryz.underlying3 (zeroN w) (keyN hx)
  rw [h3 x] at hat
  injection hat with hat
  injection hat with _ hat
  rw [hat]
  exact hrun
/-- One number more is counted; it was not there. -/
theorem Cnt.put {w : World} {mb k : Nat} {ps : List PN} (h : Cnt w mb k ps) (hk : k < ps.length) (hl : ps.length ≤ 256) (hx : (Lit.int .i64 ps[k].id).wf = true) :
    ∃ w', (Instr.mapUpdate 107 (.map (some mb)) (.int .i64 ps[k].id) (.int .i64 (cntK ps k ps[k].id + 1))).run Tryz.prog w = .ok () w' ∧ w.grownBy w' (some mb) ∧ (Instr.lookup 107 (.map (some mb)) (.int .i64 ps[k].id) false).run Tryz.prog w' = .ok (.int .i64 (cntK ps k ps[k].id + 1)) w' ∧ (inK ps k ps[k].id = false → Cnt w' mb (k + 1) ps) := by
  obtain ⟨D, h1, h2, h3⟩ := h
  have hc : (Lit.int .i64 (cntK ps k ps[k].id + 1)).wf = true := wfI (by unfold cntK; split <;> omega) (by unfold cntK; split <;> omega)
  obtain ⟨w', hrun, hown, hgrow⟩ := h1.update lawN Tryz.underlying107 (by unfold maxLen; omega) (keyN hx) (plainElem_int Tryz.underlying3 hc)
  have hkl := lawN.key (keyN hx)
  refine ⟨w', hrun, hgrow, ?_, fun hin => ⟨_, hown, ?_, fun x => ?_⟩⟩
  · obtain ⟨c, hr, hat, _⟩ := hown.lookup_int lawN Tryz.underlying107 Tryz.underlying3 (zeroN w') (keyN hx)
    rw [atKey_put_same h2 hkl] at hat
    injection hat with hat
    injection hat with _ hat
    rw [hat]
    exact hr
  · obtain ⟨es, rfl⟩ := h2
    exact ⟨_, DataW.put_eq ..⟩
  · by_cases hxe : x = ps[k].id
    · subst hxe
      rw [atKey_put_same h2 hkl]
      simp [cntK, hin, inK_step hk]
    · rw [atKey_put_other (fun e => hxe (by injection e)), h3 x]
      have : ¬ ps[k].id = x := fun e => hxe e.symm
      simp [cntK, inK_step hk, this]
theorem Cnt.lt {w : World} {mb k : Nat} {ps : List PN} (h : Cnt w mb k ps) : mb < w.heap.size := by
  obtain ⟨D, h1, _⟩ := h
  exact h1.lt
set_option maxHeartbeats 6400000 in
theorem mayBe_any (w : World) (gen next upto : Int) (ao : Option Addr) (cap : Nat) (ps : List PN) (hs : SeesP w w.heap.size ao ps) (hw : ∀ p ∈ ps, p.wf) :
    Calls Tryz.prog 42 #[.agg #[.int .i64 gen, .int .i64 next, .int .u64 upto, .slice ao ps.length cap]] w (RetB (mayM gen next upto ps) w) := by
  have HS : Hid (SeesP w w.heap.size ao ps) := hs
  have HW : Hid (∀ p ∈ ps, p.wf) := hw
  clear hs hw
  by_cases hh : ((1 ≤ gen ∧ gen ≤ 99999999) ∧ (1 ≤ next ∧ next ≤ 100000000) ∧ upto ≤ 4611686018427387903 ∧ ps.length ≤ 256)
  · obtain ⟨⟨g1, g2⟩, ⟨n1, n2⟩, u1, l1⟩ := hh
    have hmm := @run_makeMap Tryz.prog
    have hgd : decide (1 ≤ gen ∧ gen ≤ 99999999) = true := decide_eq_true ⟨g1, g2⟩
    obtain ⟨wb, hwb⟩ : ∃ wb, w.alloc (.cells #[.int .i64 gen, .int .i64 next, .int .u64 upto, .slice ao ps.length cap] 29) = wb := ⟨_, rfl⟩
    have HBB : Hid (Below w.heap.size w wb) := by rw [← hwb]; exact (Below.refl _ _).alloc (Nat.le_refl _) _
    have HBX : Hid (wb.heap[w.heap.size]? = some (.cells #[.int .i64 gen, .int .i64 next, .int .u64 upto, .slice ao ps.length cap] 29 (0, 0))) := by rw [← hwb]; show (w.heap.push _)[w.heap.size]? = _; exact Array.getElem?_push_size
    have hsz : wb.heap.size = w.heap.size + 1 := by rw [← hwb]; simp
    have HZ : Hid _ := hsz
    have b0 : wb.cell? ⟨w.heap.size, 0, none⟩ = some (.int .i64 gen) := by simp [World.cell?, HBX.out]
    have b1 : wb.cell? ⟨w.heap.size, 1, none⟩ = some (.int .i64 next) := by simp [World.cell?, HBX.out]
    have b2 : wb.cell? ⟨w.heap.size, 2, none⟩ = some (.int .u64 upto) := by simp [World.cell?, HBX.out]
    have b3 : wb.cell? ⟨w.heap.size, 3, none⟩ = some (.slice ao ps.length cap) := by simp [World.cell?, HBX.out]
    have b3m : (wb.alloc (.map #[] 0)).cell? ⟨w.heap.size, 3, none⟩ = some (.slice ao ps.length cap) := (World.cell?_of_block (w := wb) (Below.heap_alloc wb _ _ (by show w.heap.size < _; omega))).trans b3
    have H0 : Hid (Cnt (wb.alloc (.map #[] 0)) wb.heap.size 0 ps) := cnt_new wb ps
    have HX0 : Hid ((wb.alloc (.map #[] 0)).heap[w.heap.size]? = some (.cells #[.int .i64 gen, .int .i64 next, .int .u64 upto, .slice ao ps.length cap] 29 (0, 0))) := (Below.heap_alloc wb _ _ (by rw [hsz]; omega)).trans HBX.out
    have HB0 : Hid (Below w.heap.size w (wb.alloc (.map #[] 0))) := HBB.out.alloc HBB.out.size _
    clear hsz
    go_enter Tryz.func42, Tryz.ntmps42
    go_wp2_with fail
    refine (isFileNo_any _ gen).mono ?_
    rintro _ w1 ⟨rfl, hw1⟩
    rw [hw1, hgd]
    clear hw1
    go_wp2
    go_loopw [4, 36] (fun h i wr => ∃ k : Nat, k ≤ ps.length ∧ i = .int .i64 k ∧ h = .int .u64 (lastP ps k) ∧ (∀ j (hj : j < ps.length), j < k → okP gen next upto ps j ps[j]) ∧ Cnt wr wb.heap.size k ps ∧ wr.heap[w.heap.size]? = some (.cells #[.int .i64 gen, .int .i64 next, .int .u64 upto, .slice ao ps.length cap] 29 (0, 0)) ∧ Below w.heap.size w wr) (fun _ i _ => ps.length - (intOf i).toNat)
    case atStart => exact ⟨0, Nat.zero_le _, rfl, rfl, fun j _ h => absurd h (by omega), H0.out, HX0.out, HB0.out⟩
    case round =>
      obtain ⟨k, hk, rfl, rfl, hok, hcnt, hbox, hbel⟩ := hrel
      have HOK : Hid (∀ j (hj : j < ps.length), j < k → okP gen next upto ps j ps[j]) := hok
      have HCN : Hid (Cnt wr wb.heap.size k ps) := hcnt
      have HBO : Hid (wr.heap[w.heap.size]? = some (.cells #[.int .i64 gen, .int .i64 next, .int .u64 upto, .slice ao ps.length cap] 29 (0, 0))) := hbox
      have HBE : Hid (Below w.heap.size w wr) := hbel
      clear hok hcnt hbox hbel b0 b1 b2 b3 b3m H0 HX0 HB0 HBX HBB
      by_cases hkl : k < ps.length
      · obtain ⟨b, off, hao, hb, hat⟩ := (HS.out.later HBE.out) k hkl
        have hwf := HW.out _ (List.getElem_mem hkl)
        obtain ⟨c0, c1, c2, c3, c4, c5, c6, c7⟩ := hat
        subst hao
        have hid : (Lit.int .i64 ps[k].id).wf = true := wfI hwf.id0 hwf.id1
        obtain ⟨w1, hw1⟩ : ∃ w1, wr.alloc (.cells #[.int .i64 ps[k].id, .int .u64 ps[k].lo, .int .u64 ps[k].hi, .int .i64 ps[k].rows, .int .i64 ps[k].gen, .int .i64 ps[k].gone, .int .u32 ps[k].ds, .int .u32 ps[k].es] 79) = w1 := ⟨_, rfl⟩
        have hc1 : Cnt w1 wb.heap.size k ps := by rw [← hw1]; exact HCN.out.alloc _
        have hlook := hc1.look hid
        obtain ⟨w2, hup, hgrow, hlook2, hcnt2⟩ := hc1.put hkl l1 hid
        have hmb := HCN.out.lt
        have hz := HZ.out
        have hs1 : w1.heap.size = wr.heap.size + 1 := by rw [← hw1]; simp
        have x1 : w1.heap[wr.heap.size]? = some (.cells #[.int .i64 ps[k].id, .int .u64 ps[k].lo, .int .u64 ps[k].hi, .int .i64 ps[k].rows, .int .i64 ps[k].gen, .int .i64 ps[k].gone, .int .u32 ps[k].ds, .int .u32 ps[k].es] 79 (0, 0)) := by rw [← hw1]; show (wr.heap.push _)[wr.heap.size]? = _; exact Array.getElem?_push_size
        have x2 := (hgrow.block wr.heap.size (by omega) (fun e => by injection e with e; omega)).trans x1
        have y1 : w1.heap[w.heap.size]? = some (.cells #[.int .i64 gen, .int .i64 next, .int .u64 upto, .slice (some ⟨b, off, none⟩) ps.length cap] 29 (0, 0)) := by rw [← hw1]; exact (Below.heap_alloc wr _ _ (by omega)).trans HBO.out
        have y2 := (hgrow.block w.heap.size (by omega) (fun e => by injection e with e; omega)).trans y1
        have HB2 : Hid (Below w.heap.size w w2) := by
          have h1 : Below w.heap.size w w1 := by rw [← hw1]; exact HBE.out.alloc HBE.out.size _
          exact h1.grown hgrow (by omega) (fun k hk => by injection hk with hk; omega)
        have d0 : w1.cell? ⟨wr.heap.size, 0, none⟩ = some (.int .i64 ps[k].id) := cells_at x1 0
        have e0 : w2.cell? ⟨wr.heap.size, 0, none⟩ = some (.int .i64 ps[k].id) := cells_at x2 0
        have e1 : w2.cell? ⟨wr.heap.size, 1, none⟩ = some (.int .u64 ps[k].lo) := cells_at x2 1
        have e2 : w2.cell? ⟨wr.heap.size, 2, none⟩ = some (.int .u64 ps[k].hi) := cells_at x2 2
        have e3 : w2.cell? ⟨wr.heap.size, 3, none⟩ = some (.int .i64 ps[k].rows) := cells_at x2 3
        have e4 : w2.cell? ⟨wr.heap.size, 4, none⟩ = some (.int .i64 ps[k].gen) := cells_at x2 4
        have e5 : w2.cell? ⟨wr.heap.size, 5, none⟩ = some (.int .i64 ps[k].gone) := cells_at x2 5
        have e6 : w2.cell? ⟨wr.heap.size, 6, none⟩ = some (.int .u32 ps[k].ds) := cells_at x2 6
        have e7 : w2.cell? ⟨wr.heap.size, 7, none⟩ = some (.int .u32 ps[k].es) := cells_at x2 7
        have f0 : w2.cell? ⟨w.heap.size, 0, none⟩ = some (.int .i64 gen) := cells_at y2 0
        have f1 : w2.cell? ⟨w.heap.size, 1, none⟩ = some (.int .i64 next) := cells_at y2 1
        have f2 : w2.cell? ⟨w.heap.size, 2, none⟩ = some (.int .u64 upto) := cells_at y2 2
        have f3 : w2.cell? ⟨w.heap.size, 3, none⟩ = some (.slice (some ⟨b, off, none⟩) ps.length cap) := cells_at y2 3
        have HCN2 : Hid (inK ps k ps[k].id = false → Cnt w2 wb.heap.size (k + 1) ps) := hcnt2
        have HY2 : Hid _ := y2
        have HL2 : Hid _ := lastP_succ hkl
        have hl : lastP ps k = lastP ps k := rfl
        clear hcnt2 hgrow x1 x2 y1 y2 hc1 hwf HCN HBO hl hz
        cases hin : inK ps k ps[k].id
        · have HIN : Hid _ := hin
          have hcz : cntK ps k ps[k].id = 0 := by unfold cntK; rw [hin]; rfl
          rw [hcz] at hlook
          rw [hcz, show (0 : Int) + 1 = 1 from rfl] at hlook2 hup
          clear hin hcz
          by_cases hlo : ps[k].lo < lastP ps k
          · have HNO : Hid (¬ mayM gen next upto ps) := fun h => by have := (h.2.2.2.2 k hkl).2.1; omega
            generalize lastP ps k = lst at *
            go_wp2
            go_ret
            exact RetB.no rfl HNO.out HB2.out
          · have HLO : Hid (lastP ps k ≤ ps[k].lo) := by show _ ≤ _; omega
            have HPK : Hid (∀ c : PN, c = ps[k] → (mayL gen next upto c ↔ mayL gen next upto ps[k])) := fun c hc => by rw [hc]
            generalize lastP ps k = lst at hlo
            go_wp2_with fail
            refine (mayList_any w2 gen next upto _ _ _ ps[k].id ps[k].lo ps[k].hi ps[k].rows ps[k].gen ps[k].gone ps[k].ds ps[k].es).mono ?_
            rintro _ w3 ⟨c, rfl, hiff, hb3⟩
            have HIF : Hid (c = true ↔ mayL gen next upto ps[k]) := hiff
            have HB3 : Hid (Below w2.heap.size w2 w3) := hb3
            have g2' : w3.cell? ⟨wr.heap.size, 2, none⟩ = some (.int .u64 ps[k].hi) := (hb3.cell (p := ⟨wr.heap.size, 2, none⟩) (by have := cell_ltM e2; exact this)).trans e2
            clear hiff hb3
            cases c
            · go_wp2
              go_ret
              exact RetB.no rfl (fun h => by have := HIF.out.2 (h.2.2.2.2 k hkl).2.2; cases this) (HB2.out.trans (HB3.out.mono HB2.out.size))
            · go_wp2
              go_roundw
              case rel =>
                refine ⟨k + 1, by omega, by go_num, by rw [HL2.out], fun j hj hjk => ?_, (HCN2.out HIN.out).keep HB3.out, (HB3.out.block _ (Array.getElem?_eq_some_iff.1 HY2.out).1).trans HY2.out, HB2.out.trans (HB3.out.mono HB2.out.size)⟩
                rcases Nat.lt_or_ge j k with h | h
                · exact HOK.out j hj h
                · obtain rfl : j = k := by omega
                  exact ⟨inK_no HIN.out, HLO.out, HIF.out.1 (by trivial)⟩
              case measure => simp [intOf]; omega
        · have hcz : cntK ps k ps[k].id = 1 := by unfold cntK; rw [hin]; rfl
          rw [hcz] at hlook
          rw [hcz, show (1 : Int) + 1 = 2 from rfl] at hlook2 hup
          have HNO : Hid (¬ mayM gen next upto ps) := fun h => by
            obtain ⟨j, hj, hjk, e⟩ := inK_yes hk hin
            exact (h.2.2.2.2 k hkl).1 j hj hjk e
          clear hin hcz
          go_wp2
          go_ret
          exact RetB.no rfl HNO.out HB2.out
      · have hke : k = ps.length := by omega
        subst hke
        go_wp2
        go_ret
        exact RetB.yes rfl ⟨⟨g1, g2⟩, ⟨n1, n2⟩, u1, l1, fun k hk => HOK.out k hk hk⟩ HBE.out
  · have HN : Hid (¬ mayM gen next upto ps) := fun h => hh ⟨h.1, h.2.1, h.2.2.1, h.2.2.2.1⟩
    have HB : Hid (Below w.heap.size w (w.alloc (.cells #[.int .i64 gen, .int .i64 next, .int .u64 upto, .slice ao ps.length cap] 29))) := (Below.refl _ _).alloc (Nat.le_refl _) _
    go_enter Tryz.func42, Tryz.ntmps42
    go_wp2_with fail
    refine (isFileNo_any _ gen).mono ?_
    rintro _ w1 ⟨rfl, hw1⟩
    subst hw1
    by_cases hg : (1 ≤ gen ∧ gen ≤ 99999999)
    · have hgd : decide (1 ≤ gen ∧ gen ≤ 99999999) = true := decide_eq_true hg
      rw [hgd]
      go_wp2
      all_goals first | (exfalso; omega) | (go_ret; exact RetB.no rfl HN.out HB.out)
    · have hgd : decide (1 ≤ gen ∧ gen ≤ 99999999) = false := decide_eq_false hg
      rw [hgd]
      go_wp2
      go_ret
      exact RetB.no rfl HN.out HB.out
end Go.Proofs.YtbfjnidpjmhfiaaGreatDoor

namespace Go.Proofs.YtbfjnidpjmhfiaaGreatDoor
set_option linter.unusedSimpArgs false
open Go.ChangeShapes Go.WideShapes Go.ChangeAt Go.RowKit Go.Maps
set_option linter.unusedVariables false
set_option maxRecDepth 100000
end Go.Proofs.YtbfjnidpjmhfiaaGreatDoor

namespace Go.Proofs.YtbfjnidpjmhfiaaGreatDoor
set_option linter.unusedSimpArgs false
open Go.ChangeShapes Go.WideShapes Go.ChangeAt Go.RowKit
set_option linter.unusedVariables false
set_option maxRecDepth 100000
theorem SeesP.mono {w : World} {B B' : Nat} {ao : Option Addr} {ps : List PN} (h : SeesP w B ao ps) (hB : B ≤ B') : SeesP w B' ao ps := fun i hi => by
  obtain ⟨b, off, e, hb, c⟩ := h i hi
  exact ⟨b, off, e, by omega, c⟩
/-- What an encoder answers of a manifest. -/
def EncA (gen next upto : Int) (ps : List PN) (w : World) (e : Ending) (w' : World) : Prop :=
  (mayM gen next upto ps → e = .returned (.tuple #[.string (sealM mgM (encM gen next upto ps)), .int .i64 0])) ∧ (¬ mayM gen next upto ps → e = .returned (.tuple #[.string ⟨#[]⟩, .int .i64 2])) ∧ Below w.heap.size w w'
def headM (gen next upto : Int) (ps : List PN) : List Int := [gen, next, upto, (ps.length : Int)].flatMap uvB
theorem encM_head (gen next upto : Int) (ps : List PN) : encM gen next upto ps = headM gen next upto ps ++ encPs 0 ps := by simp [encM, headM]
theorem encP_six (last : Int) (p : PN) : encP last p = [p.id, p.lo - last, p.hi - p.lo, p.rows, p.gen, p.gone].flatMap uvB ++ (fxB 4 p.ds ++ fxB 4 p.es) := by simp [encP]
theorem encPs_len : ∀ (ps : List PN) (last : Int), (encPs last ps).length ≤ ps.length * 68
  | [], _ => by simp [encPs]
  | p :: ps, last => by
    have := encPs_len ps p.hi
    have h1 := (uvB_len p.id).1
    have h2 := (uvB_len (p.lo - last)).1
    have h3 := (uvB_len (p.hi - p.lo)).1
    have h4 := (uvB_len p.rows).1
    have h5 := (uvB_len p.gen).1
    have h6 := (uvB_len p.gone).1
    simp only [encPs, encP, List.length_append, fxB_len, List.length_cons]
    omega
theorem headM_len (gen next upto : Int) (ps : List PN) : (headM gen next upto ps).length ≤ 40 := by
  have h1 := (uvB_len gen).1
  have h2 := (uvB_len next).1
  have h3 := (uvB_len upto).1
  have h4 := (uvB_len (ps.length : Int)).1
  simp only [headM, List.flatMap_cons, List.flatMap_nil, List.append_nil, List.length_append]
  omega
theorem lastP_nonneg {ps : List PN} {k : Nat} (hw : ∀ p ∈ ps, p.wf) (hk : k ≤ ps.length) : 0 ≤ lastP ps k := by
  cases k with
  | zero => exact Int.le_refl _
  | succ k =>
    rw [lastP_succ (by omega)]
    exact (hw _ (List.getElem_mem _)).hi0
set_option maxHeartbeats 12800000 in
theorem encMan_any (w : World) (gen next upto : Int) (ao : Option Addr) (cap : Nat) (ps : List PN) (hs : SeesP w w.heap.size ao ps) (hw : ∀ p ∈ ps, p.wf) (hu0 : 0 ≤ upto) (hT : HalfAt w) :
    Calls Tryz.prog 20 #[.agg #[.int .i64 gen, .int .i64 next, .int .u64 upto, .slice ao ps.length cap]] w (EncA gen next upto ps w) := by
  have HS : Hid (SeesP w w.heap.size ao ps) := hs
  have HW : Hid (∀ p ∈ ps, p.wf) := hw
  have HT : Hid (HalfAt w) := hT
  clear hs hw hT
  obtain ⟨wb, hwb⟩ : ∃ wb, w.alloc (.cells #[.int .i64 gen, .int .i64 next, .int .u64 upto, .slice ao ps.length cap] 29) = wb := ⟨_, rfl⟩
  have HBB : Hid (Below w.heap.size w wb) := by rw [← hwb]; exact (Below.refl _ _).alloc (Nat.le_refl _) _
  have HBX : Hid (wb.heap[w.heap.size]? = some (.cells #[.int .i64 gen, .int .i64 next, .int .u64 upto, .slice ao ps.length cap] 29 (0, 0))) := by rw [← hwb]; show (w.heap.push _)[w.heap.size]? = _; exact Array.getElem?_push_size
  have b0 : wb.cell? ⟨w.heap.size, 0, none⟩ = some (.int .i64 gen) := cells_at HBX.out 0
  have b1 : wb.cell? ⟨w.heap.size, 1, none⟩ = some (.int .i64 next) := cells_at HBX.out 1
  have b2 : wb.cell? ⟨w.heap.size, 2, none⟩ = some (.int .u64 upto) := cells_at HBX.out 2
  have b3 : wb.cell? ⟨w.heap.size, 3, none⟩ = some (.slice ao ps.length cap) := cells_at HBX.out 3
  go_enter Tryz.func20, Tryz.ntmps20
  go_wp2_with fail
  refine (mayBe_any wb gen next upto ao cap ps ((HS.out.later HBB.out).mono HBB.out.size) HW.out).mono ?_
  rintro _ w1 ⟨c, rfl, hiff, hb1⟩
  have HIF : Hid (c = true ↔ mayM gen next upto ps) := hiff
  have HB1 : Hid (Below w.heap.size w w1) := HBB.out.trans (hb1.mono HBB.out.size)
  have HX1 : Hid (w1.heap[w.heap.size]? = some (.cells #[.int .i64 gen, .int .i64 next, .int .u64 upto, .slice ao ps.length cap] 29 (0, 0))) := (hb1.block _ (Array.getElem?_eq_some_iff.1 HBX.out).1).trans HBX.out
  clear hiff hb1 b0 b1 b2 b3
  cases c
  · go_wp2
    go_ret2
    exact ⟨fun h => (by have := HIF.out.2 h; cases this), fun _ => rfl, HB1.out⟩
  · have HM : Hid (mayM gen next upto ps) := HIF.out.1 rfl
    obtain ⟨⟨g1, g2⟩, ⟨n1, n2⟩, u1, l1, _⟩ := HM.out
    go_wp2_with fail
    refine (begin_any w1 w1.heap.size ⟨#[83, 84, 82, 65, 77, 65, 78, 49]⟩ (by decide) (Nat.le_refl _)).mono ?_
    rintro _ w2 ⟨g, vb, rfl, hwr, hv, hg, hgl, hb2⟩
    rw [txtN_mg] at hwr
    have HWR : Hid (Wr w2 w1.heap.size g vb mgM) := hwr
    have HB2 : Hid (Below w1.heap.size w1 w2) := hb2
    have hx2 := (hb2.block _ (Array.getElem?_eq_some_iff.1 HX1.out).1).trans HX1.out
    have b0 : w2.cell? ⟨w.heap.size, 0, none⟩ = some (.int .i64 gen) := cells_at hx2 0
    have b1 : w2.cell? ⟨w.heap.size, 1, none⟩ = some (.int .i64 next) := cells_at hx2 1
    have b2 : w2.cell? ⟨w.heap.size, 2, none⟩ = some (.int .u64 upto) := cells_at hx2 2
    have b3 : w2.cell? ⟨w.heap.size, 3, none⟩ = some (.slice ao ps.length cap) := cells_at hx2 3
    have HVL : Hid (vb < w2.heap.size) := by
      obtain ⟨⟨n, cp, _, ho⟩, _⟩ := hwr
      exact (ownsM.lt ho vb rfl).2
    have s2 := hb2.size
    clear hwr hb2 hx2
    go_wp2_with fail
    obtain ⟨w3, hw3⟩ : ∃ w3, w2.alloc (.cells #[.int .u64 gen, .int .u64 next, .int .u64 upto, .int .u64 (ps.length : Int)] 22) = w3 := ⟨_, rfl⟩
    rw [hw3]
    have x3 : w3.heap[w2.heap.size]? = some (.cells #[.int .u64 gen, .int .u64 next, .int .u64 upto, .int .u64 (ps.length : Int)] 22 (0, 0)) := by rw [← hw3]; show (w2.heap.push _)[w2.heap.size]? = _; exact Array.getElem?_push_size
    have hb3 : Below w2.heap.size w2 w3 := by rw [← hw3]; exact (Below.refl _ _).alloc (Nat.le_refl _) _
    have s3 : w3.heap.size = w2.heap.size + 1 := by rw [← hw3]; simp
    have hvl := HVL.out
    refine (numbers_any w3 w1.heap.size g vb w2.heap.size 4 mgM [gen, next, upto, (ps.length : Int)] (HWR.out.keep (Kept.of (K := fun _ => False) hb3) (fun h => h) (fun h => h)) (fun i hi => by
      match i, hi with
      | 0, _ => exact cells_at x3 0
      | 1, _ => exact cells_at x3 1
      | 2, _ => exact cells_at x3 2
      | 3, _ => exact cells_at x3 3) (by intro x hx; simp at hx; rcases hx with rfl | rfl | rfl | rfl <;> omega) (by omega) (by omega) (by omega) (by show 8 + 4 * 10 ≤ _; decide) (by omega)).mono ?_
    rintro _ w4 ⟨rfl, vb4, hwr4, hv4, hk4⟩
    have HWR4 : Hid (Wr w4 w1.heap.size g vb4 (mgM ++ headM gen next upto ps)) := hwr4
    have HB4 : Hid (Below w1.heap.size w1 w4) := (HB2.out.trans (hb3.mono s2)).trans (hk4.below (by omega) (fun k hk e => by
      rcases e with e | e
      · omega
      · omega))
    have hx4 := (HB4.out.block _ (Array.getElem?_eq_some_iff.1 HX1.out).1).trans HX1.out
    have b34 : w4.cell? ⟨w.heap.size, 3, none⟩ = some (.slice ao ps.length cap) := cells_at hx4 3
    have HG4 : Hid (g < w4.heap.size) := by have := hk4.size; show _ < _; omega
    have HV4 : Hid (w1.heap.size ≤ vb4) := by show _ ≤ _; rcases hv4 with e | e <;> omega
    clear hwr4 hv4 hk4 hx4 x3 hb3 b0 b1 b2 b3 HWR HVL hvl hw3 HB2
    go_wp2
    go_loopw [5, 30] (fun h i wr => ∃ k : Nat, k ≤ ps.length ∧ i = .int .i64 k ∧ h = .int .u64 (lastP ps k) ∧ ∃ vb', Wr wr w1.heap.size g vb' (mgM ++ headM gen next upto ps ++ encPs 0 (ps.take k)) ∧ w1.heap.size ≤ vb' ∧ Below w1.heap.size w1 wr) (fun _ i _ => ps.length - (intOf i).toNat)
    case atStart => exact ⟨0, Nat.zero_le _, rfl, rfl, vb4, by simpa [encPs] using HWR4.out, HV4.out, HB4.out⟩
    case round =>
      obtain ⟨k, hk, rfl, rfl, vb5, hwr, hv5, hbe⟩ := hrel
      have HWR : Hid (Wr wr w1.heap.size g vb5 (mgM ++ headM gen next upto ps ++ encPs 0 (ps.take k))) := hwr
      have HBE : Hid (Below w1.heap.size w1 wr) := hbe
      have HBW : Hid (Below w.heap.size w wr) := HB1.out.trans (hbe.mono HB1.out.size)
      have s5 := hbe.size
      have hgl5 : g < wr.heap.size := by
        obtain ⟨⟨n, cp, hc, ho⟩, _⟩ := hwr
        exact cell_ltM hc
      have hvl5 : vb5 < wr.heap.size := by
        obtain ⟨⟨n, cp, hc, ho⟩, _⟩ := hwr
        exact (ownsM.lt ho vb5 rfl).2
      have hlen5 := encPs_len (ps.take k) 0
      have hlh := headM_len gen next upto ps
      clear hwr hbe
      by_cases hkl : k < ps.length
      · obtain ⟨b, off, hao, hb, hat⟩ := (HS.out.later HBW.out) k hkl
        obtain ⟨c0, c1, c2, c3, c4, c5, c6, c7⟩ := hat
        obtain ⟨_, hlo, hml⟩ := HM.out.2.2.2.2 k hkl
        have hwf := HW.out _ (List.getElem_mem hkl)
        obtain ⟨m1, m2, m3, m4, m5, m6, m7, m8, m9, m10, m11, m12⟩ := hml
        have hl0 := lastP_nonneg HW.out hk
        obtain ⟨id0, id1, lo0, lo1, hi0, hi1, rows0, rows1, gen0, gen1, gone0, gone1, ds0, ds1, es0, es1⟩ := hwf
        have HST : Hid (mgM ++ headM gen next upto ps ++ encPs 0 (ps.take (k + 1)) = mgM ++ headM gen next upto ps ++ encPs 0 (ps.take k) ++ [ps[k].id, ps[k].lo - lastP ps k, ps[k].hi - ps[k].lo, ps[k].rows, ps[k].gen, ps[k].gone].flatMap uvB ++ (fxB 4 ps[k].ds ++ fxB 4 ps[k].es)) := by
          show _ = _
          rw [encPs_step ps k hkl, encP_six]
          simp only [List.append_assoc]
        have HL2 : Hid _ := lastP_succ hkl
        generalize hpk : ps[k] = p at *
        obtain ⟨id, lo, hi, rows, pg, gone, ds, es⟩ := p
        simp only at c0 c1 c2 c3 c4 c5 c6 c7 hlo m1 m2 m3 m4 m5 m6 m7 m8 m9 m10 id0 id1 lo0 lo1 hi0 hi1 rows0 rows1 gen0 gen1 gone0 gone1 ds0 ds1 es0 es1 HST HL2
        generalize lastP ps k = lst at *
        subst hao
        clear m11 m12 hpk
        go_wp2_with fail
        obtain ⟨w6, hw6⟩ : ∃ w6, wr.alloc (.cells #[.int .i64 id, .int .u64 lo, .int .u64 hi, .int .i64 rows, .int .i64 pg, .int .i64 gone, .int .u32 ds, .int .u32 es] 79) = w6 := ⟨_, rfl⟩
        rw [hw6]
        have x6 : w6.heap[wr.heap.size]? = some (.cells #[.int .i64 id, .int .u64 lo, .int .u64 hi, .int .i64 rows, .int .i64 pg, .int .i64 gone, .int .u32 ds, .int .u32 es] 79 (0, 0)) := by rw [← hw6]; show (wr.heap.push _)[wr.heap.size]? = _; exact Array.getElem?_push_size
        have hb6 : Below wr.heap.size wr w6 := by rw [← hw6]; exact (Below.refl _ _).alloc (Nat.le_refl _) _
        have s6 : w6.heap.size = wr.heap.size + 1 := by rw [← hw6]; simp
        obtain ⟨w7, hw7⟩ : ∃ w7, w6.alloc (.cells #[.int .u64 id, .int .u64 (lo - lst), .int .u64 (hi - lo), .int .u64 rows, .int .u64 pg, .int .u64 gone] 22) = w7 := ⟨_, rfl⟩
        rw [hw7]
        have x7 : w7.heap[w6.heap.size]? = some (.cells #[.int .u64 id, .int .u64 (lo - lst), .int .u64 (hi - lo), .int .u64 rows, .int .u64 pg, .int .u64 gone] 22 (0, 0)) := by rw [← hw7]; show (w6.heap.push _)[w6.heap.size]? = _; exact Array.getElem?_push_size
        have hb7 : Below w6.heap.size w6 w7 := by rw [← hw7]; exact (Below.refl _ _).alloc (Nat.le_refl _) _
        have s7 : w7.heap.size = w6.heap.size + 1 := by rw [← hw7]; simp
        have hb67 : Below wr.heap.size wr w7 := hb6.trans (hb7.mono (by omega))
        have ht : (ps.take k).length = k := by rw [List.length_take]; omega
        rw [ht] at hlen5
        rw [← s6]
        refine (numbers_any w7 w1.heap.size g vb5 w6.heap.size 6 _ [id, lo - lst, hi - lo, rows, pg, gone] (HWR.out.keep (Kept.of (K := fun _ => False) hb67) (fun h => h) (fun h => h)) (fun i hi => by
          match i, hi with
          | 0, _ => exact cells_at x7 0
          | 1, _ => exact cells_at x7 1
          | 2, _ => exact cells_at x7 2
          | 3, _ => exact cells_at x7 3
          | 4, _ => exact cells_at x7 4
          | 5, _ => exact cells_at x7 5) (by intro x hx; simp at hx; rcases hx with rfl | rfl | rfl | rfl | rfl | rfl <;> omega) (by omega) (by omega) (by omega) (by simp only [List.length_append]; have : mgM.length = 8 := rfl; simp; omega) (by omega)).mono ?_
        rintro _ w8 ⟨rfl, vb8, hwr8, hv8, hk8⟩
        have s8 := hk8.size
        have x8 : w8.heap[wr.heap.size]? = some (.cells #[.int .i64 id, .int .u64 lo, .int .u64 hi, .int .i64 rows, .int .i64 pg, .int .i64 gone, .int .u32 ds, .int .u32 es] 79 (0, 0)) := (hk8.block _ (by omega) (fun e => by rcases e with e | e <;> omega)).trans ((hb7.block _ (by omega)).trans x6)
        have HWR8 : Hid (Wr w8 w1.heap.size g vb8 (mgM ++ headM gen next upto ps ++ encPs 0 (ps.take k) ++ [id, lo - lst, hi - lo, rows, pg, gone].flatMap uvB)) := hwr8
        have HV8 : Hid (vb8 = vb5 ∨ w7.heap.size ≤ vb8) := hv8
        have HB8 : Hid (Below w1.heap.size w1 w8) := (HBE.out.trans (hb67.mono s5)).trans (hk8.below (by omega) (fun k hk e => by rcases e with e | e <;> omega))
        have hlen8 : (mgM ++ headM gen next upto ps ++ encPs 0 (ps.take k) ++ [id, lo - lst, hi - lo, rows, pg, gone].flatMap uvB).length + 8 ≤ 140737488355328 := by
          have h1 := (uvB_len id).1
          have h2 := (uvB_len (lo - lst)).1
          have h3 := (uvB_len (hi - lo)).1
          have h4 := (uvB_len rows).1
          have h5 := (uvB_len pg).1
          have h6 := (uvB_len gone).1
          have h7 : mgM.length = 8 := rfl
          simp only [List.length_append, List.flatMap_cons, List.flatMap_nil, List.length_nil]
          omega
        have HLN : Hid _ := hlen8
        have f6 : w8.cell? ⟨wr.heap.size, 6, none⟩ = some (.int .u32 ds) := cells_at x8 6
        have f7 : w8.cell? ⟨wr.heap.size, 7, none⟩ = some (.int .u32 es) := cells_at x8 7
        have HX8 : Hid _ := x8
        clear hwr8 hv8 hk8 x6 x7 hb6 hb7 hb67 x8 hlen8 hw6 hw7
        have H1 : Hid (∀ W, Calls Tryz.prog 44 #[.int .u32 ds] W fun e w' => e = .returned (.string (strOfNums (fxB 4 ds))) ∧ Below W.heap.size W w') := fun W => fixed32 ds W ds0 ds1
        have H2 : Hid (∀ W, Calls Tryz.prog 44 #[.int .u32 es] W fun e w' => e = .returned (.string (strOfNums (fxB 4 es))) ∧ Below W.heap.size W w') := fun W => fixed32 es W es0 es1
        have HTX : Hid (txtN (strOfNums (fxB 4 ds) ++ strOfNums (fxB 4 es)) = fxB 4 ds ++ fxB 4 es) := by
          show _ = _
          rw [← strApp]
          exact txtStr _ (fun x hx => by
            rcases List.mem_append.1 hx with h | h
            · exact fxB_bytes 4 ds x h
            · exact fxB_bytes 4 es x h)
        have hz1 : (strOfNums (fxB 4 ds)).size = 4 := by rw [strOfNums_size, fxB_len]
        have hz2 : (strOfNums (fxB 4 es)).size = 4 := by rw [strOfNums_size, fxB_len]
        generalize strOfNums (fxB 4 ds) = t1 at *
        generalize strOfNums (fxB 4 es) = t2 at *
        have hadd : ∀ (w : World), (Op.stringOp .add t1 t2).run Tryz.prog w = .ok (.string (t1 ++ t2)) w := fun w => run_string_add_sum w _ _ (by omega)
        have HZ : Hid ((t1 ++ t2).size = 8) := by show _ = _; rw [ByteArray.size_append]; omega
        generalize t1 ++ t2 = t3 at *
        go_wp2
        (refine wp_region_held_drew (S := (fun W' => W'.cell? ⟨wr.heap.size, 6, none⟩ = some (.int .u32 ds) ∧ W'.cell? ⟨wr.heap.size, 7, none⟩ = some (.int .u32 es))) (by kernel_rfl) ⟨f6, f7⟩ (fun hHeld => ?_); simp only [List.size_toArray, List.length_cons, List.length_nil, Nat.reduceAdd, Array.replicate_succ, Array.replicate_zero, List.push_toArray, List.append_toArray, List.nil_append, List.cons_append])
        (refine tk0 (v := ?_) (by kernel_rfl) (by kernel_rfl) (by kernel_rfl) (fun _ _ _ h => h) (Or.inl ⟨by rfl, ?_⟩) (by assumption) ?_; rotate_left; (focus (intro w hSw; (try dsimp only at hSw); go_simp; (try first | (rw [dif_pos (by omega)]; simp only [Result.andThen_ok]) | rw [if_pos (by omega)]); (try with_reducible rfl); done)); try simp only [Act.put, List.setIfInBounds_toArray, List.set_cons_zero, List.set_cons_succ])
        (refine tk1 (v := ?_) (by kernel_rfl) (by kernel_rfl) (by kernel_rfl) (fun _ _ _ h => h) (Or.inl ⟨by rfl, ?_⟩) (by assumption) ?_; rotate_left; (focus (intro w hSw; (try dsimp only at hSw); go_simp; (try first | (rw [dif_pos (by omega)]; simp only [Result.andThen_ok]) | rw [if_pos (by omega)]); (try with_reducible rfl); done)); try simp only [Act.put, List.setIfInBounds_toArray, List.set_cons_zero, List.set_cons_succ])
        (refine tk2 (v := ?_) (by kernel_rfl) (by kernel_rfl) (by kernel_rfl) (fun _ _ _ h => h) (Or.inl ⟨by rfl, ?_⟩) (by assumption) ?_; rotate_left; (focus (intro w hSw; (try dsimp only at hSw); go_simp; (try first | (rw [dif_pos (by omega)]; simp only [Result.andThen_ok]) | rw [if_pos (by omega)]); (try with_reducible rfl); done)); try simp only [Act.put, List.setIfInBounds_toArray, List.set_cons_zero, List.set_cons_succ])
        (refine tk4 (v := ?_) (by kernel_rfl) (by kernel_rfl) (by kernel_rfl) (fun _ _ _ h => h) (Or.inl ⟨by rfl, ?_⟩) (by assumption) ?_; rotate_left; (focus (intro w hSw; (try dsimp only at hSw); go_simp; (try first | (rw [dif_pos (by omega)]; simp only [Result.andThen_ok]) | rw [if_pos (by omega)]); (try with_reducible rfl); done)); try simp only [Act.put, List.setIfInBounds_toArray, List.set_cons_zero, List.set_cons_succ])
        (refine tk5 (v := ?_) (by kernel_rfl) (by kernel_rfl) (by kernel_rfl) (fun _ _ _ h => h) (Or.inl ⟨by rfl, ?_⟩) (by assumption) ?_; rotate_left; (focus (intro w hSw; (try dsimp only at hSw); go_simp; (try first | (rw [dif_pos (by omega)]; simp only [Result.andThen_ok]) | rw [if_pos (by omega)]); (try with_reducible rfl); done)); try simp only [Act.put, List.setIfInBounds_toArray, List.set_cons_zero, List.set_cons_succ])
        (refine wpAnyH_ready (rs := [3]) (by kernel_rfl) (by simp) ?_; refine ar3 (fun K hK => ?_) AllReadyH.nil; go_simp)
        refine (H1.out w8.drew).mono ?_
        rintro _ w9 ⟨rfl, hb9⟩
        have hl9 := hb9.size
        have q6 : w9.cell? ⟨wr.heap.size, 6, none⟩ = some (.int .u32 ds) := (hb9.cell (p := ⟨wr.heap.size, 6, none⟩) (cell_ltM f6)).trans f6
        have q7 : w9.cell? ⟨wr.heap.size, 7, none⟩ = some (.int .u32 es) := (hb9.cell (p := ⟨wr.heap.size, 7, none⟩) (cell_ltM f7)).trans f7
        have HB9 : Hid (Below w8.heap.size w8 w9) := (Below.refl _ _).drew.trans hb9
        clear hb9
        (refine hK.out _ _ ⟨q6, q7⟩ (fun hHeld => ?_); clear hK K; try simp only [Act.put, List.setIfInBounds_toArray, List.set_cons_zero, List.set_cons_succ])
        (refine wpAnyH_ready (rs := [6]) (by kernel_rfl) (by simp) ?_; refine ar6 (fun K hK => ?_) AllReadyH.nil; go_simp)
        refine (H2.out w9).mono ?_
        rintro _ wA ⟨rfl, hbA⟩
        have r6 : wA.cell? ⟨wr.heap.size, 6, none⟩ = some (.int .u32 ds) := (hbA.cell (p := ⟨wr.heap.size, 6, none⟩) (cell_ltM q6)).trans q6
        have r7 : wA.cell? ⟨wr.heap.size, 7, none⟩ = some (.int .u32 es) := (hbA.cell (p := ⟨wr.heap.size, 7, none⟩) (cell_ltM q7)).trans q7
        have HBA : Hid (Below w8.heap.size w8 wA) := HB9.out.trans (hbA.mono HB9.out.size)
        clear hbA
        (refine hK.out _ _ ⟨r6, r7⟩ (fun hHeld => ?_); clear hK K; try simp only [Act.put, List.setIfInBounds_toArray, List.set_cons_zero, List.set_cons_succ])
        (refine tk7 (v := ?_) (by kernel_rfl) (by kernel_rfl) (by kernel_rfl) (fun _ _ _ h => h) (Or.inl ⟨by rfl, ?_⟩) (by assumption) ?_; rotate_left; (focus (intro w hSw; (try dsimp only at hSw); go_simp; (try first | (rw [dif_pos (by omega)]; simp only [Result.andThen_ok]) | rw [if_pos (by omega)]); (try with_reducible rfl); done)); try simp only [Act.put, List.setIfInBounds_toArray, List.set_cons_zero, List.set_cons_succ])
        (refine wpAnyH_ready (rs := [8]) (by kernel_rfl) (by simp) ?_; refine ar8 (fun K hK => ?_) AllReadyH.nil; go_simp)
        have hsA := HBA.out.size
        have hsB := HB8.out.size
        refine (text_any wA w1.heap.size g vb8 _ t3 (HWR8.out.keep (Kept.of (K := fun _ => False) HBA.out) (fun h => h) (fun h => h)) (by have := HLN.out; rw [HZ.out]; exact this) (by omega)).mono ?_
        rintro _ wC ⟨rfl, vbC, hwrC, hvC, hkC⟩
        rw [HTX.out] at hwrC
        have hne8 : ¬ (wr.heap.size = g ∨ wr.heap.size = vb8) := fun e => by
          rcases e with e | e
          · omega
          · rcases HV8.out with e2 | e2 <;> omega
        have t6 : wC.cell? ⟨wr.heap.size, 6, none⟩ = some (.int .u32 ds) := (hkC.cell (p := ⟨wr.heap.size, 6, none⟩) (cell_ltM r6) hne8).trans r6
        have t7 : wC.cell? ⟨wr.heap.size, 7, none⟩ = some (.int .u32 es) := (hkC.cell (p := ⟨wr.heap.size, 7, none⟩) (cell_ltM r7) hne8).trans r7
        have xC := (hkC.block _ (cell_ltM r6) hne8).trans ((HBA.out.block _ (cell_ltM f6)).trans HX8.out)
        have t2' : wC.cell? ⟨wr.heap.size, 2, none⟩ = some (.int .u64 hi) := cells_at xC 2
        have HWRC : Hid (Wr wC w1.heap.size g vbC (mgM ++ headM gen next upto ps ++ encPs 0 (ps.take (k + 1)))) := by rw [HST.out]; exact hwrC
        have HVC : Hid (w1.heap.size ≤ vbC) := by
          show _ ≤ _
          rcases hvC with e | e
          · rcases HV8.out with e2 | e2 <;> omega
          · omega
        have HBC : Hid (Below w1.heap.size w1 wC) := (HB8.out.trans (HBA.out.mono hsB)).trans (hkC.below (by omega) (fun k hk e => by
          rcases e with e | e
          · omega
          · rcases HV8.out with e2 | e2 <;> omega))
        clear hwrC hvC hkC xC
        (refine hK.out _ _ ⟨t6, t7⟩ (fun hHeld => ?_); clear hK K; try simp only [Act.put, List.setIfInBounds_toArray, List.set_cons_zero, List.set_cons_succ])
        refine wpAnyH_done (by kernel_rfl) ?_ _
        go_wp2
        go_roundw
        case rel => exact ⟨k + 1, by omega, by go_num, by rw [HL2.out], vbC, HWRC.out, HVC.out, HBC.out⟩
        case measure => simp [intOf]; omega
      · have hke : k = ps.length := by omega
        subst hke
        rw [List.take_length] at HWR hlen5
        have HBT : Hid (HalfAt wr) := HT.out.later HBW.out
        go_wp2_with fail
        refine (end_any wr w1.heap.size g vb5 _ HWR.out (by simp only [List.length_append]; have : mgM.length = 8 := rfl; omega) HBT.out).mono ?_
        rintro _ w6 ⟨rfl, hb6⟩
        have HB6 : Hid (Below w.heap.size w w6) := HBW.out.trans (hb6.mono HBW.out.size)
        clear hb6
        go_wp2
        go_ret2
        refine ⟨fun _ => ?_, fun h => absurd HM.out h, HB6.out⟩
        unfold sealM
        rw [encM_head, ← List.append_assoc]
        rfl
end Go.Proofs.YtbfjnidpjmhfiaaGreatDoor
