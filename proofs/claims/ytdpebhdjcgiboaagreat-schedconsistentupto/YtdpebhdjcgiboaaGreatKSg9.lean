import Derived.Test.YtdpebhdjcgiboaaGreatKSg7
namespace Go.Proofs.YtdpebhdjcgiboaaGreat
open Go.ChangeShapes Go.WideShapes Go.ChangeAt Go.RowKit Go.MuLone Go.RwLone
set_option linter.unusedVariables false
set_option maxRecDepth 100000
set_option maxHeartbeats 3200000
/-- The machines of a program, with no memory to them. -/
def stI (ins : Nat → List I8) (s : Ls) (m : Nat) : Ls := ⟨(tsP s.wo (s.rg m) (ins m) (s.pl m)).1, upd s.rg m (tsP s.wo (s.rg m) (ins m) (s.pl m)).2.1, upd s.pl m (tsP s.wo (s.rg m) (ins m) (s.pl m)).2.2⟩
def dnI (ins : Nat → List I8) (s : Ls) (m : Nat) : Bool := decide ((ins m).length ≤ s.pl m)
def pureM (ins : Nat → List I8) (n : Nat) : Mc := { σ := Ls, ok := fun _ _ => False, F := fun _ => False, pt := fun _ => 0, N := n, st := stI ins, dn := dnI ins, far := fun h _ _ => h, lt := fun h _ => h.elim, call := fun _ _ _ _ h => h.elim }
section
variable {M M' : Mc} (φ : M.σ → M'.σ)
def mpA (a : Hp × M.σ) : Hp × M'.σ := (a.1, φ a.2)
def mpR (r : Bool × Nat × (Hp × M.σ)) : Bool × Nat × (Hp × M'.σ) := (r.1, r.2.1, mpA φ r.2.2)
theorem mp_stepQ (h1 : ∀ s m, φ (M.st s m) = M'.st (φ s) m) (h2 : ∀ s m, M.dn s m = M'.dn (φ s) m) (h : Hp) (s : M.σ) (i : Nat) (x : Pq) (l : List Pq) : stepQ M' h (φ s) i x l = ((stepQ M h s i x l).1, φ (stepQ M h s i x l).2.1, (stepQ M h s i x l).2.2) := by
  unfold stepQ
  rw [← h1, ← h2]
  split <;> rfl
theorem mp_stepP (h1 : ∀ s m, φ (M.st s m) = M'.st (φ s) m) (h2 : ∀ s m, M.dn s m = M'.dn (φ s) m) (a : Hp × M.σ) (i : Nat) : stepP M' (mpA φ a) i = (mpA φ (stepP M a i).1, (stepP M a i).2) := by
  unfold stepP mpA
  dsimp only
  split
  · rename_i x l e
    rw [mp_stepQ φ h1 h2]
  · rfl
theorem mp_runP (h1 : ∀ s m, φ (M.st s m) = M'.st (φ s) m) (h2 : ∀ s m, M.dn s m = M'.dn (φ s) m) (x : Int) : ∀ (l : Nat) (n : Int) (a : Hp × M.σ), runP M' x l n (mpA φ a) = mpR φ (runP M x l n a)
  | 0, n, a => by
    simp only [runP]
    show (if n ≤ 0 ∨ pendP a.1 x = 0 then _ else _) = _
    split <;> rfl
  | l + 1, n, a => by
    simp only [runP]
    show (if n ≤ 0 ∨ pendP a.1 x = 0 then _ else _) = _
    rw [mp_stepP φ h1 h2]
    dsimp only
    rw [mp_runP h1 h2 x l]
    split <;> rfl
theorem mp_finP (h1 : ∀ s m, φ (M.st s m) = M'.st (φ s) m) (h2 : ∀ s m, M.dn s m = M'.dn (φ s) m) (i : Nat) : ∀ (l : Nat) (a : Hp × M.σ), finP M' i l (mpA φ a) = mpR φ (finP M i l a)
  | 0, a => rfl
  | l + 1, a => by
    simp only [finP]
    rw [mp_stepP φ h1 h2]
    dsimp only
    rw [mp_finP h1 h2 i l]
    split <;> rfl
theorem mp_roundN (h1 : ∀ s m, φ (M.st s m) = M'.st (φ s) m) (h2 : ∀ s m, M.dn s m = M'.dn (φ s) m) : ∀ (k t left : Nat) (a : Hp × M.σ), roundN M' k t left (mpA φ a) = mpR φ (roundN M k t left a)
  | 0, t, left, a => rfl
  | k + 1, t, left, a => by
    simp only [roundN]
    rw [mp_runP φ h1 h2]
    show (if (runP M (t : Int) left 1 a).1 = true then roundN M' k (t + 1) (runP M (t : Int) left 1 a).2.1 (mpA φ (runP M (t : Int) left 1 a).2.2) else mpR φ (runP M (t : Int) left 1 a)) = _
    rw [mp_roundN h1 h2 k]
    split <;> rfl
theorem mp_roundsF (h1 : ∀ s m, φ (M.st s m) = M'.st (φ s) m) (h2 : ∀ s m, M.dn s m = M'.dn (φ s) m) : ∀ (k : Nat) (n : Int) (left : Nat) (a : Hp × M.σ), roundsF M' k n left (mpA φ a) = mpR φ (roundsF M k n left a)
  | 0, n, left, a => rfl
  | k + 1, n, left, a => by
    simp only [roundsF]
    show (if n ≤ 0 ∨ idleP a.1 = true then (true, left, mpA φ a) else if (roundN M' a.1.q.length 0 left (mpA φ a)).1 = true then roundsF M' k (n - 1) (roundN M' a.1.q.length 0 left (mpA φ a)).2.1 (roundN M' a.1.q.length 0 left (mpA φ a)).2.2 else roundN M' a.1.q.length 0 left (mpA φ a)) = _
    rw [mp_roundN φ h1 h2]
    show (if n ≤ 0 ∨ idleP a.1 = true then (true, left, mpA φ a) else if (roundN M a.1.q.length 0 left a).1 = true then roundsF M' k (n - 1) (roundN M a.1.q.length 0 left a).2.1 (mpA φ (roundN M a.1.q.length 0 left a).2.2) else mpR φ (roundN M a.1.q.length 0 left a)) = _
    rw [mp_roundsF h1 h2 k]
    split
    · rfl
    · split <;> rfl
theorem mp_pickP (h1 : ∀ s m, φ (M.st s m) = M'.st (φ s) m) (h2 : ∀ s m, M.dn s m = M'.dn (φ s) m) (p : Int × Int × Int) (l : Nat) (a : Hp × M.σ) : pickP M' p l (mpA φ a) = mpR φ (pickP M p l a) := by
  unfold pickP finA roundsA
  rw [mp_runP φ h1 h2, mp_runP φ h1 h2, mp_finP φ h1 h2, mp_roundsF φ h1 h2, mp_roundsF φ h1 h2]
  show (if p.1 = 1 then _ else if p.1 = 2 then _ else if p.1 = 5 then (if pendP a.1 p.2.1 = 0 then _ else _) else _) = _
  repeat' split
  all_goals rfl
theorem mp_playP (h1 : ∀ s m, φ (M.st s m) = M'.st (φ s) m) (h2 : ∀ s m, M.dn s m = M'.dn (φ s) m) : ∀ (ps : List (Int × Int × Int)) (l : Nat) (a : Hp × M.σ), playP M' ps l (mpA φ a) = mpR φ (playP M ps l a)
  | [], l, a => rfl
  | p :: ps, l, a => by
    simp only [playP]
    rw [mp_pickP φ h1 h2]
    show (if (pickP M p l a).1 = true then playP M' ps (pickP M p l a).2.1 (mpA φ (pickP M p l a).2.2) else mpR φ (pickP M p l a)) = _
    rw [mp_playP h1 h2 ps]
    split <;> rfl
end
/-- A bench's machines play as those of its program. -/
theorem pure_playP (B : Bd) (hB : BdOk B) (ps : List (Int × Int × Int)) (l : Nat) (a : Hp × Ls) : (playP (pureM B.ins B.n) ps l a).1 = (playP (mcB B hB) ps l a).1 ∧ (playP (pureM B.ins B.n) ps l a).2.1 = (playP (mcB B hB) ps l a).2.1 ∧ (playP (pureM B.ins B.n) ps l a).2.2 = (playP (mcB B hB) ps l a).2.2 := by
  have e := mp_playP (M := mcB B hB) (M' := pureM B.ins B.n) (fun s => s) (fun _ _ => rfl) (fun _ _ => rfl) ps l a
  have e2 : playP (pureM B.ins B.n) ps l a = mpR (M := mcB B hB) (M' := pureM B.ins B.n) (fun s => s) (playP (mcB B hB) ps l a) := e
  rw [e2]
  exact ⟨rfl, rfl, rfl⟩
def insL (ts : List (List I8)) (i : Nat) : List I8 := ts[i]?.getD []
/-- A program at its begin. -/
def begA (cs : List Int) (ts : List (List I8)) : Hp × Ls := (hp0 ts.length, ⟨wds cs, fun _ _ => 0, fun _ => 0⟩)
/-- How it stands behind a schedule and a drain. -/
def endA (cs : List Int) (ts : List (List I8)) (vs : List (Int × Int × Int)) : Hp × Ls := (playP (pureM (insL ts) ts.length) [(6, 0, 0)] 14 (playP (pureM (insL ts) ts.length) vs 14 (begA cs ts)).2.2).2.2
theorem asG_word (cs : List Int) : (asG cs).word = wds cs := by
  funext i
  by_cases hi : i < cs.length
  · exact (asG_facts cs).2.2.2.2.2 i hi
  · have h0 : wds cs i = 0 := by unfold wds; rw [List.getElem?_eq_none (by omega)]; rfl
    rw [h0]
    simp [asG, AS.laid, layW, AS.fresh, hi]
theorem goT_all {wd : Nat} : ∀ (ts : List (List I8)) (lf : Int), lf ≤ 10 → goT wd lf ts = true → ∀ i (hi : i < ts.length), (ts[i].length ≤ 10 ∧ ∀ x ∈ ts[i], sndB wd x = true)
  | [], _, _, _, i, hi => by simp at hi
  | l :: r, lf, hlf, h, i, hi => by
    unfold goT at h
    split at h
    · cases h
    · rename_i hneg
      simp only [Bool.and_eq_true] at h
      match i, hi with
      | 0, _ => exact ⟨by show l.length ≤ 10; omega, fun x hx => List.all_eq_true.1 h.1 x hx⟩
      | i + 1, hi => exact goT_all r _ (by omega) h.2 i (by simpa using hi)
theorem sound_facts {cs : List Int} {ts : List (List I8)} (h : soundP cs ts = true) : (1 ≤ cs.length ∧ cs.length ≤ 4) ∧ (1 ≤ ts.length ∧ ts.length ≤ 4) ∧ ∀ i (hi : i < ts.length), ts[i].length ≤ 10 ∧ ∀ x ∈ ts[i], snd cs.length x := by
  unfold soundP at h
  simp only [Bool.and_eq_true] at h
  have h1 := wiB_t h.1
  have h2 := wiB_t h.2.1
  refine ⟨by omega, by omega, fun i hi => ?_⟩
  have := goT_all ts 10 (by omega) h.2.2 i hi
  exact ⟨this.1, fun x hx => snd_of (this.2 x hx)⟩
abbrev rnG (w : World) (c : Array Value) : World := (lgW w c).alloc (.cells #[.slice none 0 0, .slice none 0 0] 51)
end Go.Proofs.YtdpebhdjcgiboaaGreat

namespace Go.Proofs.YtdpebhdjcgiboaaGreat
open Go.ChangeShapes Go.WideShapes Go.ChangeAt Go.RowKit Go.MuLone Go.RwLone
set_option linter.unusedVariables false
set_option maxRecDepth 100000
set_option maxHeartbeats 3200000
theorem pure_play2 (B : Bd) (hB : BdOk B) {ins : Nat → List I8} {n : Nat} (hi : B.ins = ins) (hn : B.n = n) (ps : List (Int × Int × Int)) (l : Nat) (a : Hp × Ls) : (playP (pureM ins n) ps l a).2.2 = (playP (mcB B hB) ps l a).2.2 := by
  subst hi hn
  exact (pure_playP B hB ps l a).2.2
/-- Words are words. -/
def csOk (cs : List Int) : Prop := ∀ c ∈ cs, 0 ≤ c ∧ c < 18446744073709551616
theorem wds_b {cs : List Int} (h : csOk cs) (i : Nat) (hi : i < cs.length) : 0 ≤ wds cs i ∧ wds cs i < 18446744073709551616 := by
  unfold wds; rw [List.getElem?_eq_getElem hi]; exact h _ (List.getElem_mem hi)
/-- The bench that Lay lays out. -/
theorem layB (w : World) (C : Nat) (ca : Option Addr) (cc : Nat) (ta : Option Addr) (tc : Nat) (tvf : Nat → Value) (cs : List Int) (tl : List (List I8)) (h : LitG w C ca cc ta tc tvf cs tl) (hC : C ≤ w.heap.size) (hsd : soundP cs tl = true) (hco : csOk cs) (hio : ∀ l ∈ tl, ∀ x ∈ l, immOk x) :
    Calls Tryz.prog 30 #[.agg (litC ca cs.length cc ta tl.length tc)] w fun e w' => ∃ B bb hb qb tv, e = .returned (.tuple #[.pointer (some ⟨bb, 0, none⟩), .int .i64 0]) ∧ BdOk B ∧ B.n = tl.length ∧ B.wd = cs.length ∧ B.ins = insL tl ∧ BnG w w' B bb hb qb tv (begA cs tl) := by
  obtain ⟨hc4, hn4, hall⟩ := sound_facts hsd
  refine (layG_any w C ca cc ta tc tvf cs tl h hC hsd hc4 hn4 (fun i hi => (hall i hi).1)).mono ?_
  rintro e w2 ⟨M, L, bb, hb, qb, f, tv, rfl, la⟩
  have sf := asG_facts cs
  have hin : ∀ i, i < tl.length → (∀ x ∈ tl[i]?.getD [], snd cs.length x ∧ immOk x) ∧ (tl[i]?.getD []).length ≤ 1000 := fun i hi => by
    rw [List.getElem?_eq_getElem hi]
    exact ⟨fun x hx => ⟨(hall i hi).2 x hx, hio _ (List.getElem_mem hi) x hx⟩, by have := (hall i hi).1; show tl[i].length ≤ 1000; omega⟩
  refine ⟨bdOf L tl.length cs.length (fun i => tl[i]?.getD []) f, bb, hb, qb, tv, rfl, la.bdok cs.length (fun i hi => (hin i hi).1) (fun i hi => (hin i hi).2), rfl, rfl, rfl, ?_⟩
  have := la.bench cs.length hn4.2 sf.1 sf.2.1 sf.2.2.1 sf.2.2.2.1 sf.2.2.2.2.1 (fun i hi => by rw [asG_word]; exact wds_b hco i hi)
  rw [asG_word] at this
  exact this
abbrev ouW (w5 : World) (r : Nat) (a b : Value) : World := ((w5.alloc (.cells #[a, b] 51)).setCell ⟨r, 0, none⟩ a).setCell ⟨r, 1, none⟩ b
theorem ou_facts {w5 : World} {r : Nat} {a b : Value} {c : Array Value} (hr : w5.heap[r]? = some (.cells c 51)) (hc : c.size = 2) : Keeps (fun x => x = r) w5 (ouW w5 r a b) ∧ (ouW w5 r a b).heap[r]? = some (.cells #[a, b] 51) := by
  have hl := (Array.getElem?_eq_some_iff.1 hr).1
  have e1 : (w5.alloc (.cells #[a, b] 51)).heap[r]? = some (.cells c 51) := (Below.heap_alloc _ _ _ hl).trans hr
  have e2 : ((w5.alloc (.cells #[a, b] 51)).setCell ⟨r, 0, none⟩ a).heap[r]? = some (.cells (c.setIfInBounds 0 a) 51) := heapSet e1 _
  have e3 : (ouW w5 r a b).heap[r]? = some (.cells ((c.setIfInBounds 0 a).setIfInBounds 1 b) 51) := heapSet e2 _
  refine ⟨(Keeps.setCell (B := fun x => x = r) (Keeps.setCell (B := fun x => x = r) ((Keeps.refl _ _).alloc _) rfl _) rfl _), ?_⟩
  rw [e3]
  obtain ⟨l⟩ := c
  match l, hc with
  | [u, v], _ => rfl
theorem runG (w : World) (C : Nat) (ca : Option Addr) (cc : Nat) (ta : Option Addr) (tc : Nat) (tvf : Nat → Value) (cs : List Int) (tl : List (List I8)) (h : LitG w C ca cc ta tc tvf cs tl) (hC : C ≤ w.heap.size) (hsd : soundP cs tl = true) (hco : csOk cs) (hio : ∀ l ∈ tl, ∀ x ∈ l, immOk x) (s : ByteArray) (hs : s.size ≤ 1048576) :
    Calls Tryz.prog 37 #[.agg (litC ca cs.length cc ta tl.length tc), .string s] w fun e w' => ∃ g rv, e = .returned (.tuple #[.agg #[.slice (some ⟨g, 0, none⟩) cs.length cs.length, rv], .int .i64 0]) ∧ OwW w' (w.heap.size + 2) (.slice (some ⟨g, 0, none⟩) cs.length cs.length) (wlL (endA cs tl (dL s.data.toList)).2.wo cs.length) ∧ OwW w' (g + 1) rv (regsL (endA cs tl (dL s.data.toList)).2.rg tl.length) ∧ Below w.heap.size w w' := by
  obtain ⟨hc4, hn4, -⟩ := sound_facts hsd
  have k0 : Keeps (fun _ => False) w (rnG w (litC ca cs.length cc ta tl.length tc)) := ((Keeps.refl _ _).alloc _).alloc _
  have sz : (rnG w (litC ca cs.length cc ta tl.length tc)).heap.size = w.heap.size + 2 := by rw [szAl, szAl]
  have HL := layB (rnG w (litC ca cs.length cc ta tl.length tc)) C ca cc ta tc tvf cs tl (h.later (k0.below hC (fun _ _ e => e))) (by omega) hsd hco hio
  have HLL : Hid (∀ _ : Unit, _) := fun _ => HL
  have HR : Hid ((rnG w (litC ca cs.length cc ta tl.length tc)).heap[w.heap.size + 1]? = some (.cells #[.slice none 0 0, .slice none 0 0] 51) ∧ Keeps (fun _ => False) w (rnG w (litC ca cs.length cc ta tl.length tc))) := ⟨heap_alloc_last _ _ _ (szAl _ _).symm, k0⟩
  clear h hsd HL k0 hco hio
  generalize hvs : dL s.data.toList = vs at *
  have HVS : Hid (dL s.data.toList = vs) := hvs
  clear hvs
  go_enter Tryz.func37, Tryz.ntmps37
  go_wp2_with fail
  refine (HLL.out ()).mono ?_
  rintro e w2 ⟨B, bb, hb, qb, tv, rfl, hB, hBn, hBw, hBi, b⟩
  have HB : Hid (BnG (rnG w (litC ca cs.length cc ta tl.length tc)) w2 B bb hb qb tv (begA cs tl)) := b
  have HBB : Hid (BdOk B ∧ B.n = tl.length ∧ B.wd = cs.length ∧ B.ins = insL tl) := ⟨hB, hBn, hBw, hBi⟩
  clear b hB hBn hBw hBi HLL
  go_wp2_with fail
  refine (bplayG _ w2 B HBB.out.1 bb hb qb tv (begA cs tl) HB.out s hs).mono ?_
  rintro e w3 ⟨rfl, b3⟩
  rw [HVS.out] at b3 ⊢
  generalize retI (playP (mcB B HBB.out.1) vs 14 (begA cs tl)).1 (playP (mcB B HBB.out.1) vs 14 (begA cs tl)).2.1 14 = rr at *
  have H3 : Hid (BnG (rnG w (litC ca cs.length cc ta tl.length tc)) w3 B bb hb qb tv (playP (pureM (insL tl) tl.length) vs 14 (begA cs tl)).2.2) := by
    have e := pure_play2 B HBB.out.1 HBB.out.2.2.2 HBB.out.2.1 vs 14 (begA cs tl)
    show BnG _ _ _ _ _ _ _ _
    rw [e]
    exact b3
  clear b3 HB
  generalize ha1 : (playP (pureM (insL tl) tl.length) vs 14 (begA cs tl)).2.2 = a1 at *
  have HC3 := H3.out.be
  have c3 := (cell?_heap HC3 3).trans rfl
  clear HC3
  go_wp2_with fail
  obtain ⟨F, qv, ev, en, m, d, l, nb, nt⟩ := H3.out.h
  refine (hdrain_any (mcB B HBB.out.1) w3 F hb qb qv ev en a1 m H3.out.o d H3.out.iv 14 (by decide)).mono ?_
  rintro e w4 ⟨rfl, iv4, F4, qv4, ev4, en4, md⟩
  have b4 : BnG (rnG w (litC ca cs.length cc ta tl.length tc)) w4 B bb hb qb tv (playP (mcB B HBB.out.1) [(6, 0, 0)] 14 a1).2.2 := H3.out.mid l nb nt md iv4
  have H4 : Hid (BnG (rnG w (litC ca cs.length cc ta tl.length tc)) w4 B bb hb qb tv (endA cs tl vs)) := by
    have e := pure_play2 B HBB.out.1 HBB.out.2.2.2 HBB.out.2.1 [(6, 0, 0)] 14 a1
    have e2 : endA cs tl vs = (playP (mcB B HBB.out.1) [(6, 0, 0)] 14 a1).2.2 := by
      unfold endA
      rw [ha1]
      exact e
    show BnG _ _ _ _ _ _ _ _
    rw [e2]
    exact b4
  obtain ⟨yy, hyy⟩ := retP_I (playP (mcB B HBB.out.1) [(6, 0, 0)] 14 a1).1 (playP (mcB B HBB.out.1) [(6, 0, 0)] 14 a1).2.1 14
  rw [hyy]
  generalize retI (playP (mcB B HBB.out.1) [(6, 0, 0)] 14 a1).1 (playP (mcB B HBB.out.1) [(6, 0, 0)] 14 a1).2.1 14 = rr2 at *
  clear iv4 md b4 m d l nb nt H3 c3 ha1 hyy
  go_wp2_with fail
  refine (outcomeG _ w4 B HBB.out.1 bb hb qb tv (endA cs tl vs) H4.out (by rw [HBB.out.2.1]; exact hn4)).mono ?_
  rintro e w5 ⟨g, rv, rfl, ow, orr, k5, -⟩
  rw [HBB.out.2.2.1] at ow ⊢
  rw [HBB.out.2.1] at orr
  have h4s := H4.out.bl.size
  have hgl := World.ownsRow.lt ow g rfl
  have K5 : Keeps (fun x => w.heap.size + 2 ≤ x) (rnG w (litC ca cs.length cc ta tl.length tc)) w5 := by
    have b4 := H4.out.bl
    refine Keeps.trans (b := w4) ⟨b4.os, b4.tape, b4.output, b4.size, fun x hx hn => b4.block x (by omega)⟩ (k5.mono (fun x e => ?_))
    have := H4.out.lo x (.inl e)
    omega
  have er : w5.heap[w.heap.size + 1]? = some (.cells #[.slice none 0 0, .slice none 0 0] 51) := (K5.block _ (by omega) (by show ¬ w.heap.size + 2 ≤ w.heap.size + 1; omega)).trans HR.out.1
  obtain ⟨ra, rc, hrv⟩ := orr.form
  subst hrv
  generalize (regsL (endA cs tl vs).2.rg tl.length).length = mm at *
  have eo := ou_facts (a := .slice (some ⟨g, 0, none⟩) cs.length cs.length) (b := .slice ra mm rc) er rfl
  have HX : Hid (OwW (ouW w5 (w.heap.size + 1) (.slice (some ⟨g, 0, none⟩) cs.length cs.length) (.slice ra mm rc)) (w.heap.size + 2) (.slice (some ⟨g, 0, none⟩) cs.length cs.length) (wlL (endA cs tl vs).2.wo cs.length) ∧ OwW (ouW w5 (w.heap.size + 1) (.slice (some ⟨g, 0, none⟩) cs.length cs.length) (.slice ra mm rc)) (g + 1) (.slice ra mm rc) (regsL (endA cs tl vs).2.rg tl.length) ∧ Below w.heap.size w (ouW w5 (w.heap.size + 1) (.slice (some ⟨g, 0, none⟩) cs.length cs.length) (.slice ra mm rc))) :=
    ⟨(owK ow eo.1 (fun g' hg e => by have := (World.ownsRow.lt ow g' hg).1; omega)).down (by omega), owK orr eo.1 (fun g' hg e => by have := (World.ownsRow.lt orr g' hg).1; omega), (HR.out.2.below (Nat.le_refl _) (fun _ _ e => e)).trans (Keeps.below (B := fun x => w.heap.size + 1 ≤ x) ((K5.mono (fun x e => by show w.heap.size + 1 ≤ x; omega)).trans (eo.1.mono (fun x e => by show w.heap.size + 1 ≤ x; omega))) (by omega) (fun x hx e => by have : w.heap.size + 1 ≤ x := e; omega))⟩
  have z1 := eo.2
  have er6 : (w5.alloc (.cells #[.slice (some ⟨g, 0, none⟩) cs.length cs.length, .slice ra mm rc] 51)).heap[w.heap.size + 1]? = some (.cells #[.slice none 0 0, .slice none 0 0] 51) := (Below.heap_alloc _ _ _ (Array.getElem?_eq_some_iff.1 er).1).trans er
  have r0 := (cell?_heap er6 0).trans rfl
  have r1 := (cell?_heap er6 1).trans rfl
  have q0 := frozen?_heap er6 0
  have q1 := frozen?_heap er6 1
  clear ow orr k5 K5 H4 HR HBB eo er er6
  go_wp2
  exact bodyPost_ret (results_row_tmp (p := 4) (ty := 51) (q := 5) rfl _ _ (w.heap.size + 1) 51 _ (0, 0) _ rfl z1 Tryz.underlying51 rfl (by kernel_rfl)) rfl ⟨g, _, rfl, HX.out⟩
end Go.Proofs.YtdpebhdjcgiboaaGreat
