import Derived.Test.YtjceellpmopnkaaDoorMf1
import Derived.OwnWalk
import Derived.Laws.OwnMore
import Derived.Laws.Rows
import Derived.Maps.OwnSet
import Derived.Maps.OwnOps
import Derived.Maps.Views
namespace Go.Proofs.YtjceellpmopnkaaDoor
open Go.ChangeShapes Go.WideShapes Go.ChangeAt Go.RowKit Go.Maps
set_option linter.unusedVariables false
set_option maxRecDepth 100000
/-- A pair lies in eight cells. -/
structure PnAt (w : World) (b o : Nat) (p : PN) : Prop where
  c0 : w.cell? ⟨b, o, none⟩ = some (.int .i64 p.id)
  c1 : w.cell? ⟨b, o + 1, none⟩ = some (.int .u64 p.lo)
  c2 : w.cell? ⟨b, o + 2, none⟩ = some (.int .u64 p.hi)
  c3 : w.cell? ⟨b, o + 3, none⟩ = some (.int .i64 p.rows)
  c4 : w.cell? ⟨b, o + 4, none⟩ = some (.int .i64 p.gen)
  c5 : w.cell? ⟨b, o + 5, none⟩ = some (.int .i64 p.gone)
  c6 : w.cell? ⟨b, o + 6, none⟩ = some (.int .u32 p.ds)
  c7 : w.cell? ⟨b, o + 7, none⟩ = some (.int .u32 p.es)
theorem PnAt.later {w w' : World} {B b o : Nat} {p : PN} (h : PnAt w b o p) (hb : Below B w w') (hB : b < B) : PnAt w' b o p :=
  ⟨(hb.cell hB).trans h.c0, (hb.cell hB).trans h.c1, (hb.cell hB).trans h.c2, (hb.cell hB).trans h.c3, (hb.cell hB).trans h.c4, (hb.cell hB).trans h.c5, (hb.cell hB).trans h.c6, (hb.cell hB).trans h.c7⟩
/-- The pairs ps lie at ao, in blocks below B. -/
def SeesP (w : World) (B : Nat) (ao : Option Addr) (ps : List PN) : Prop := ∀ i (hi : i < ps.length), ∃ b off, ao = some ⟨b, off, none⟩ ∧ b < B ∧ PnAt w b (off + i * 8) ps[i]
theorem SeesP.later {w w' : World} {B : Nat} {ao : Option Addr} {ps : List PN} (h : SeesP w B ao ps) (hb : Below B w w') : SeesP w' B ao ps := fun i hi => by
  obtain ⟨b, off, e, hbB, c⟩ := h i hi
  exact ⟨b, off, e, hbB, c.later hb hbB⟩
def inK (ps : List PN) (k : Nat) (x : Int) : Bool := (ps.take k).any (fun p => decide (p.id = x))
def cntK (ps : List PN) (k : Nat) (x : Int) : Int := if inK ps k x then 1 else 0
theorem inK_step {ps : List PN} {k : Nat} (hk : k < ps.length) (x : Int) : inK ps (k + 1) x = (inK ps k x || decide (ps[k].id = x)) := by
  unfold inK
  rw [List.take_succ_eq_append_getElem hk, List.any_append]
  simp
theorem inK_yes {ps : List PN} {k : Nat} {x : Int} (hk : k ≤ ps.length) (h : inK ps k x = true) : ∃ j, ∃ hj : j < ps.length, j < k ∧ ps[j].id = x := by
  unfold inK at h
  obtain ⟨p, hp, e⟩ := List.any_eq_true.1 h
  obtain ⟨j, hj, rfl⟩ := List.mem_iff_getElem.1 hp
  rw [List.length_take] at hj
  refine ⟨j, by omega, by omega, ?_⟩
  rw [List.getElem_take] at e
  simpa using e
theorem inK_no {ps : List PN} {k : Nat} {x : Int} (h : inK ps k x = false) : ∀ j (hj : j < ps.length), j < k → ps[j].id ≠ x := by
  intro j hj hjk e
  have : inK ps k x = true := by
    unfold inK
    refine List.any_eq_true.2 ⟨ps[j], ?_, by simpa using e⟩
    rw [List.mem_iff_getElem]
    exact ⟨j, by rw [List.length_take]; omega, by rw [List.getElem_take]⟩
  rw [this] at h
  cases h
theorem lawN : Keyed Tryd.prog 3 := int_keyed Tryd.underlying3
theorem keyN {x : Int} (h : (Lit.int .i64 x).wf = true) : keyOf Tryd.prog 3 (.int .i64 x) = some (.int .i64 x) := keyOf_int_mk Tryd.underlying3 h
theorem zeroN (w : World) : (zeroValue 3).run Tryd.prog w = .ok (.int .i64 0) w := by kernel_rfl
theorem wfI {x : Int} (h0 : -9223372036854775808 ≤ x) (h1 : x ≤ 9223372036854775807) : (Lit.int .i64 x).wf = true := by
  show (decide (-9223372036854775808 ≤ x) && decide (x ≤ 9223372036854775807)) = true
  simp [h0, h1]
/-- The map at mb counts the numbers of the first k pairs. -/
def Cnt (w : World) (mb k : Nat) (ps : List PN) : Prop := ∃ D : DataW Unit, w.ownsMap Tryd.prog 3 (plainElem Tryd.prog 3) mb k D ∧ IsMap D ∧ ∀ x, D.atKey (.int .i64 x) (.lit (.int .i64 0)) = .lit (.int .i64 (cntK ps k x))
theorem cnt_new (w : World) (ps : List PN) : Cnt (w.alloc (.map #[] 0)) w.heap.size 0 ps := ⟨.map [], World.ownsMap_made w _ _ _, ⟨[], rfl⟩, fun x => by simp [cntK, inK]; rfl⟩
theorem Cnt.alloc {w : World} {mb k : Nat} {ps : List PN} (h : Cnt w mb k ps) (o : Obj) : Cnt (w.alloc o) mb k ps := by
  obtain ⟨D, h1, h2, h3⟩ := h
  exact ⟨D, h1.alloc o, h2, h3⟩
theorem Cnt.keep {w w' : World} {mb k : Nat} {ps : List PN} (h : Cnt w mb k ps) (hb : Below w.heap.size w w') : Cnt w' mb k ps := by
  obtain ⟨D, ⟨es, clock, h1, h4⟩, h2, h3⟩ := h
  exact ⟨D, ⟨es, clock, (hb.block mb (Array.getElem?_eq_some_iff.1 h1).1).trans h1, h4⟩, h2, h3⟩
theorem Cnt.look {w : World} {mb k : Nat} {ps : List PN} (h : Cnt w mb k ps) {x : Int} (hx : (Lit.int .i64 x).wf = true) : (Instr.lookup 63 (.map (some mb)) (.int .i64 x) false).run Tryd.prog w = .ok (.int .i64 (cntK ps k x)) w := by
  obtain ⟨D, h1, h2, h3⟩ := h
  obtain ⟨c, hrun, hat, _⟩ := h1.lookup_int lawN Tryd.underlying63 Tryd.underlying3 (zeroN w) (keyN hx)
  rw [h3 x] at hat
  injection hat with hat
  injection hat with _ hat
  rw [hat]
  exact hrun
/-- One number more is counted; it was not there. -/
theorem Cnt.put {w : World} {mb k : Nat} {ps : List PN} (h : Cnt w mb k ps) (hk : k < ps.length) (hl : ps.length ≤ 256) (hx : (Lit.int .i64 ps[k].id).wf = true) :
    ∃ w', (Instr.mapUpdate 63 (.map (some mb)) (.int .i64 ps[k].id) (.int .i64 (cntK ps k ps[k].id + 1))).run Tryd.prog w = .ok () w' ∧ w.grownBy w' (some mb) ∧ (Instr.lookup 63 (.map (some mb)) (.int .i64 ps[k].id) false).run Tryd.prog w' = .ok (.int .i64 (cntK ps k ps[k].id + 1)) w' ∧ (inK ps k ps[k].id = false → Cnt w' mb (k + 1) ps) := by
  obtain ⟨D, h1, h2, h3⟩ := h
  have hc : (Lit.int .i64 (cntK ps k ps[k].id + 1)).wf = true := wfI (by unfold cntK; split <;> omega) (by unfold cntK; split <;> omega)
  obtain ⟨w', hrun, hown, hgrow⟩ := h1.update lawN Tryd.underlying63 (by unfold maxLen; omega) (keyN hx) (plainElem_int Tryd.underlying3 hc)
  have hkl := lawN.key (keyN hx)
  refine ⟨w', hrun, hgrow, ?_, fun hin => ⟨_, hown, ?_, fun x => ?_⟩⟩
  · obtain ⟨c, hr, hat, _⟩ := hown.lookup_int lawN Tryd.underlying63 Tryd.underlying3 (zeroN w') (keyN hx)
    rw [atKey_put_same h2 hkl] at hat
    injection hat with hat
    injection hat with _ hat
    rw [hat]
    exact hr
  · obtain ⟨es, rfl⟩ := h2
    exact ⟨_, DataW.put_eq ..⟩
  · by_cases hxe : x = ps[k].id
    · subst hxe
      rw [atKey_put_same h2 hkl]
      simp [cntK, hin, inK_step hk]
    · rw [atKey_put_other (fun e => hxe (by injection e)), h3 x]
      have : ¬ ps[k].id = x := fun e => hxe e.symm
      simp [cntK, inK_step hk, this]
theorem Cnt.lt {w : World} {mb k : Nat} {ps : List PN} (h : Cnt w mb k ps) : mb < w.heap.size := by
  obtain ⟨D, h1, _⟩ := h
  exact h1.lt
theorem cell_ltM {w : World} {g j : Nat} {v : Value} (h : w.cell? ⟨g, j, none⟩ = some v) : g < w.heap.size := by
  rcases Nat.lt_or_ge g w.heap.size with h1 | h1
  · exact h1
  · unfold World.cell? at h
    rw [Array.getElem?_eq_none h1] at h
    simp at h
theorem cells_at {w : World} {b : Nat} {cs : Array Value} {t : TypeId} (h : w.heap[b]? = some (.cells cs t (0, 0))) (j : Nat) : w.cell? ⟨b, j, none⟩ = cs[j]? := by simp [World.cell?, h]
set_option maxHeartbeats 6400000 in
theorem mayBe_any (w : World) (gen next upto : Int) (ao : Option Addr) (cap : Nat) (ps : List PN) (hs : SeesP w w.heap.size ao ps) (hw : ∀ p ∈ ps, p.wf) :
    Calls Tryd.prog 12 #[.agg #[.int .i64 gen, .int .i64 next, .int .u64 upto, .slice ao ps.length cap]] w (RetB (mayM gen next upto ps) w) := by
  have HS : Hid (SeesP w w.heap.size ao ps) := hs
  have HW : Hid (∀ p ∈ ps, p.wf) := hw
  clear hs hw
  by_cases hh : ((1 ≤ gen ∧ gen ≤ 99999999) ∧ (1 ≤ next ∧ next ≤ 100000000) ∧ upto ≤ 4611686018427387903 ∧ ps.length ≤ 256)
  · obtain ⟨⟨g1, g2⟩, ⟨n1, n2⟩, u1, l1⟩ := hh
    have hmm := @run_makeMap Tryd.prog
    have hgd : decide (1 ≤ gen ∧ gen ≤ 99999999) = true := decide_eq_true ⟨g1, g2⟩
    obtain ⟨wb, hwb⟩ : ∃ wb, w.alloc (.cells #[.int .i64 gen, .int .i64 next, .int .u64 upto, .slice ao ps.length cap] 25) = wb := ⟨_, rfl⟩
    have HBB : Hid (Below w.heap.size w wb) := by rw [← hwb]; exact (Below.refl _ _).alloc (Nat.le_refl _) _
    have HBX : Hid (wb.heap[w.heap.size]? = some (.cells #[.int .i64 gen, .int .i64 next, .int .u64 upto, .slice ao ps.length cap] 25 (0, 0))) := by rw [← hwb]; show (w.heap.push _)[w.heap.size]? = _; exact Array.getElem?_push_size
    have hsz : wb.heap.size = w.heap.size + 1 := by rw [← hwb]; simp
    have HZ : Hid _ := hsz
    have b0 : wb.cell? ⟨w.heap.size, 0, none⟩ = some (.int .i64 gen) := by simp [World.cell?, HBX.out]
    have b1 : wb.cell? ⟨w.heap.size, 1, none⟩ = some (.int .i64 next) := by simp [World.cell?, HBX.out]
    have b2 : wb.cell? ⟨w.heap.size, 2, none⟩ = some (.int .u64 upto) := by simp [World.cell?, HBX.out]
    have b3 : wb.cell? ⟨w.heap.size, 3, none⟩ = some (.slice ao ps.length cap) := by simp [World.cell?, HBX.out]
    have b3m : (wb.alloc (.map #[] 0)).cell? ⟨w.heap.size, 3, none⟩ = some (.slice ao ps.length cap) := (World.cell?_of_block (w := wb) (Below.heap_alloc wb _ _ (by show w.heap.size < _; omega))).trans b3
    have H0 : Hid (Cnt (wb.alloc (.map #[] 0)) wb.heap.size 0 ps) := cnt_new wb ps
    have HX0 : Hid ((wb.alloc (.map #[] 0)).heap[w.heap.size]? = some (.cells #[.int .i64 gen, .int .i64 next, .int .u64 upto, .slice ao ps.length cap] 25 (0, 0))) := (Below.heap_alloc wb _ _ (by rw [hsz]; omega)).trans HBX.out
    have HB0 : Hid (Below w.heap.size w (wb.alloc (.map #[] 0))) := HBB.out.alloc HBB.out.size _
    clear hsz
    go_enter Tryd.func12, Tryd.ntmps12
    go_wp2_with fail
    refine (isFileNo_any _ gen).mono ?_
    rintro _ w1 ⟨rfl, hw1⟩
    rw [hw1, hgd]
    clear hw1
    go_wp2
    go_loopw [4, 36] (fun h i wr => ∃ k : Nat, k ≤ ps.length ∧ i = .int .i64 k ∧ h = .int .u64 (lastP ps k) ∧ (∀ j (hj : j < ps.length), j < k → okP gen next upto ps j ps[j]) ∧ Cnt wr wb.heap.size k ps ∧ wr.heap[w.heap.size]? = some (.cells #[.int .i64 gen, .int .i64 next, .int .u64 upto, .slice ao ps.length cap] 25 (0, 0)) ∧ Below w.heap.size w wr) (fun _ i _ => ps.length - (intOf i).toNat)
    case atStart => exact ⟨0, Nat.zero_le _, rfl, rfl, fun j _ h => absurd h (by omega), H0.out, HX0.out, HB0.out⟩
    case round =>
      obtain ⟨k, hk, rfl, rfl, hok, hcnt, hbox, hbel⟩ := hrel
      have HOK : Hid (∀ j (hj : j < ps.length), j < k → okP gen next upto ps j ps[j]) := hok
      have HCN : Hid (Cnt wr wb.heap.size k ps) := hcnt
      have HBO : Hid (wr.heap[w.heap.size]? = some (.cells #[.int .i64 gen, .int .i64 next, .int .u64 upto, .slice ao ps.length cap] 25 (0, 0))) := hbox
      have HBE : Hid (Below w.heap.size w wr) := hbel
      clear hok hcnt hbox hbel b0 b1 b2 b3 b3m H0 HX0 HB0 HBX HBB
      by_cases hkl : k < ps.length
      · obtain ⟨b, off, hao, hb, hat⟩ := (HS.out.later HBE.out) k hkl
        have hwf := HW.out _ (List.getElem_mem hkl)
        obtain ⟨c0, c1, c2, c3, c4, c5, c6, c7⟩ := hat
        subst hao
        have hid : (Lit.int .i64 ps[k].id).wf = true := wfI hwf.id0 hwf.id1
        obtain ⟨w1, hw1⟩ : ∃ w1, wr.alloc (.cells #[.int .i64 ps[k].id, .int .u64 ps[k].lo, .int .u64 ps[k].hi, .int .i64 ps[k].rows, .int .i64 ps[k].gen, .int .i64 ps[k].gone, .int .u32 ps[k].ds, .int .u32 ps[k].es] 36) = w1 := ⟨_, rfl⟩
        have hc1 : Cnt w1 wb.heap.size k ps := by rw [← hw1]; exact HCN.out.alloc _
        have hlook := hc1.look hid
        obtain ⟨w2, hup, hgrow, hlook2, hcnt2⟩ := hc1.put hkl l1 hid
        have hmb := HCN.out.lt
        have hz := HZ.out
        have hs1 : w1.heap.size = wr.heap.size + 1 := by rw [← hw1]; simp
        have x1 : w1.heap[wr.heap.size]? = some (.cells #[.int .i64 ps[k].id, .int .u64 ps[k].lo, .int .u64 ps[k].hi, .int .i64 ps[k].rows, .int .i64 ps[k].gen, .int .i64 ps[k].gone, .int .u32 ps[k].ds, .int .u32 ps[k].es] 36 (0, 0)) := by rw [← hw1]; show (wr.heap.push _)[wr.heap.size]? = _; exact Array.getElem?_push_size
        have x2 := (hgrow.block wr.heap.size (by omega) (fun e => by injection e with e; omega)).trans x1
        have y1 : w1.heap[w.heap.size]? = some (.cells #[.int .i64 gen, .int .i64 next, .int .u64 upto, .slice (some ⟨b, off, none⟩) ps.length cap] 25 (0, 0)) := by rw [← hw1]; exact (Below.heap_alloc wr _ _ (by omega)).trans HBO.out
        have y2 := (hgrow.block w.heap.size (by omega) (fun e => by injection e with e; omega)).trans y1
        have HB2 : Hid (Below w.heap.size w w2) := by
          have h1 : Below w.heap.size w w1 := by rw [← hw1]; exact HBE.out.alloc HBE.out.size _
          exact h1.grown hgrow (by omega) (fun k hk => by injection hk with hk; omega)
        have d0 : w1.cell? ⟨wr.heap.size, 0, none⟩ = some (.int .i64 ps[k].id) := cells_at x1 0
        have e0 : w2.cell? ⟨wr.heap.size, 0, none⟩ = some (.int .i64 ps[k].id) := cells_at x2 0
        have e1 : w2.cell? ⟨wr.heap.size, 1, none⟩ = some (.int .u64 ps[k].lo) := cells_at x2 1
        have e2 : w2.cell? ⟨wr.heap.size, 2, none⟩ = some (.int .u64 ps[k].hi) := cells_at x2 2
        have e3 : w2.cell? ⟨wr.heap.size, 3, none⟩ = some (.int .i64 ps[k].rows) := cells_at x2 3
        have e4 : w2.cell? ⟨wr.heap.size, 4, none⟩ = some (.int .i64 ps[k].gen) := cells_at x2 4
        have e5 : w2.cell? ⟨wr.heap.size, 5, none⟩ = some (.int .i64 ps[k].gone) := cells_at x2 5
        have e6 : w2.cell? ⟨wr.heap.size, 6, none⟩ = some (.int .u32 ps[k].ds) := cells_at x2 6
        have e7 : w2.cell? ⟨wr.heap.size, 7, none⟩ = some (.int .u32 ps[k].es) := cells_at x2 7
        have f0 : w2.cell? ⟨w.heap.size, 0, none⟩ = some (.int .i64 gen) := cells_at y2 0
        have f1 : w2.cell? ⟨w.heap.size, 1, none⟩ = some (.int .i64 next) := cells_at y2 1
        have f2 : w2.cell? ⟨w.heap.size, 2, none⟩ = some (.int .u64 upto) := cells_at y2 2
        have f3 : w2.cell? ⟨w.heap.size, 3, none⟩ = some (.slice (some ⟨b, off, none⟩) ps.length cap) := cells_at y2 3
        have HCN2 : Hid (inK ps k ps[k].id = false → Cnt w2 wb.heap.size (k + 1) ps) := hcnt2
        have HY2 : Hid _ := y2
        have HL2 : Hid _ := lastP_succ hkl
        have hl : lastP ps k = lastP ps k := rfl
        clear hcnt2 hgrow x1 x2 y1 y2 hc1 hwf HCN HBO hl hz
        cases hin : inK ps k ps[k].id
        · have HIN : Hid _ := hin
          have hcz : cntK ps k ps[k].id = 0 := by unfold cntK; rw [hin]; rfl
          rw [hcz] at hlook
          rw [hcz, show (0 : Int) + 1 = 1 from rfl] at hlook2 hup
          clear hin hcz
          by_cases hlo : ps[k].lo < lastP ps k
          · have HNO : Hid (¬ mayM gen next upto ps) := fun h => by have := (h.2.2.2.2 k hkl).2.1; omega
            generalize lastP ps k = lst at *
            go_wp2
            go_ret
            exact RetB.no rfl HNO.out HB2.out
          · have HLO : Hid (lastP ps k ≤ ps[k].lo) := by show _ ≤ _; omega
            have HPK : Hid (∀ c : PN, c = ps[k] → (mayL gen next upto c ↔ mayL gen next upto ps[k])) := fun c hc => by rw [hc]
            generalize lastP ps k = lst at hlo
            go_wp2_with fail
            refine (mayList_any w2 gen next upto _ _ _ ps[k].id ps[k].lo ps[k].hi ps[k].rows ps[k].gen ps[k].gone ps[k].ds ps[k].es).mono ?_
            rintro _ w3 ⟨c, rfl, hiff, hb3⟩
            have HIF : Hid (c = true ↔ mayL gen next upto ps[k]) := hiff
            have HB3 : Hid (Below w2.heap.size w2 w3) := hb3
            have g2' : w3.cell? ⟨wr.heap.size, 2, none⟩ = some (.int .u64 ps[k].hi) := (hb3.cell (p := ⟨wr.heap.size, 2, none⟩) (by have := cell_ltM e2; exact this)).trans e2
            clear hiff hb3
            cases c
            · go_wp2
              go_ret
              exact RetB.no rfl (fun h => by have := HIF.out.2 (h.2.2.2.2 k hkl).2.2; cases this) (HB2.out.trans (HB3.out.mono HB2.out.size))
            · go_wp2
              go_roundw
              case rel =>
                refine ⟨k + 1, by omega, by go_num, by rw [HL2.out], fun j hj hjk => ?_, (HCN2.out HIN.out).keep HB3.out, (HB3.out.block _ (Array.getElem?_eq_some_iff.1 HY2.out).1).trans HY2.out, HB2.out.trans (HB3.out.mono HB2.out.size)⟩
                rcases Nat.lt_or_ge j k with h | h
                · exact HOK.out j hj h
                · obtain rfl : j = k := by omega
                  exact ⟨inK_no HIN.out, HLO.out, HIF.out.1 (by trivial)⟩
              case measure => simp [intOf]; omega
        · have hcz : cntK ps k ps[k].id = 1 := by unfold cntK; rw [hin]; rfl
          rw [hcz] at hlook
          rw [hcz, show (1 : Int) + 1 = 2 from rfl] at hlook2 hup
          have HNO : Hid (¬ mayM gen next upto ps) := fun h => by
            obtain ⟨j, hj, hjk, e⟩ := inK_yes hk hin
            exact (h.2.2.2.2 k hkl).1 j hj hjk e
          clear hin hcz
          go_wp2
          go_ret
          exact RetB.no rfl HNO.out HB2.out
      · have hke : k = ps.length := by omega
        subst hke
        go_wp2
        go_ret
        exact RetB.yes rfl ⟨⟨g1, g2⟩, ⟨n1, n2⟩, u1, l1, fun k hk => HOK.out k hk hk⟩ HBE.out
  · have HN : Hid (¬ mayM gen next upto ps) := fun h => hh ⟨h.1, h.2.1, h.2.2.1, h.2.2.2.1⟩
    have HB : Hid (Below w.heap.size w (w.alloc (.cells #[.int .i64 gen, .int .i64 next, .int .u64 upto, .slice ao ps.length cap] 25))) := (Below.refl _ _).alloc (Nat.le_refl _) _
    go_enter Tryd.func12, Tryd.ntmps12
    go_wp2_with fail
    refine (isFileNo_any _ gen).mono ?_
    rintro _ w1 ⟨rfl, hw1⟩
    subst hw1
    by_cases hg : (1 ≤ gen ∧ gen ≤ 99999999)
    · have hgd : decide (1 ≤ gen ∧ gen ≤ 99999999) = true := decide_eq_true hg
      rw [hgd]
      go_wp2
      all_goals first | (exfalso; omega) | (go_ret; exact RetB.no rfl HN.out HB.out)
    · have hgd : decide (1 ≤ gen ∧ gen ≤ 99999999) = false := decide_eq_false hg
      rw [hgd]
      go_wp2
      go_ret
      exact RetB.no rfl HN.out HB.out
end Go.Proofs.YtjceellpmopnkaaDoor
