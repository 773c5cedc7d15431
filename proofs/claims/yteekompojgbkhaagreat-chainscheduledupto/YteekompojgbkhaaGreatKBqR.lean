import Derived.Test.YteekompojgbkhaaGreatKBqP
namespace Go.Proofs.YteekompojgbkhaaGreat
open Go.ChangeShapes Go.WideShapes Go.ChangeAt Go.RowKit Go.MuLone Go.RwLone
set_option linter.unusedVariables false
set_option linter.unusedSectionVars false
section
variable {N : Nat} {nb : Int} {bk : Int → Int} {S S' : AS} {x x' : XS} {G G' : Gb}
/-- How many steps a machine has left at most till a link is changed; if nobody else steps. -/
def oLf (G : Gb) (o : On) : Nat := if o.kd = 0 then iLf G o.mi else if o.kd = 1 then rLf G o.mr else wlkLeft G o.mw
def oAl (x : XS) (G : Gb) (o : On) : Nat := if o.kd = 0 then insLeft x o.mi else if o.kd = 1 then rAl G o.mr else wlkLeft G o.mw
theorem rLf_still {m : MR} (h : RemI N bk G m) (k : Still N nb G G') (hb : ∀ s, 0 ≤ bk s ∧ bk s < nb) : rLf G' m = rLf G m := by
  have b0 : 0 ≤ m.bu := by rw [← h.g.2.2.2]; exact (hb _).1
  have b1 : m.bu < nb := by rw [← h.g.2.2.2]; exact (hb _).2
  have hW := k.W _ h.g.1 h.g.2.1 h.g.2.2.1
  have fr : m.st = 4 ∨ m.st = 5 → frB G' m = frB G m := fun e => by
    unfold frB
    by_cases e0 : m.ah = 0
    · rw [if_pos e0, if_pos e0, k.H _ b0 b1]
    · have ga := (h.ah e).resolve_left e0
      rw [if_neg e0, if_neg e0, k.W _ ga.1 ga.2.1 ga.2.2.1]
  have hpr := h.pr
  obtain ⟨st, co, bu, sl, wd, ah, pr, be, ma, he⟩ := m
  simp only at fr hW hpr
  match st with
  | 0 => rfl
  | 1 => rfl
  | 2 =>
    show (if G'.W sl = wd then 1 else 3) = (if G.W sl = wd then 1 else 3)
    rw [hW]
  | 3 =>
    show G'.ranks.toNat + 2 = G.ranks.toNat + 2
    rw [k.ranks]
  | 4 =>
    have gp := hpr (.inl rfl)
    show (if frB G' _ || decide (G'.W pr % 2 = 0) then (G'.rank pr).toNat + 2 else G'.ranks.toNat + 4) = (if frB G _ || decide (G.W pr % 2 = 0) then (G.rank pr).toNat + 2 else G.ranks.toNat + 4)
    rw [fr (.inl rfl), k.W _ gp.1 gp.2.1 gp.2.2.1, k.rank, k.ranks]
  | 5 =>
    show (if frB G' _ then 1 else G'.ranks.toNat + 3) = (if frB G _ then 1 else G.ranks.toNat + 3)
    rw [fr (.inr rfl), k.ranks]
  | n + 6 => rfl
theorem iLf_still {m : MI} (h : InsI N bk G m) (k : Still N nb G G') (hb : ∀ s, 0 ≤ bk s ∧ bk s < nb) : iLf G' m = iLf G m := by
  have hH := k.H m.bu (by rw [h.bu]; exact (hb _).1) (by rw [h.bu]; exact (hb _).2)
  unfold iLf
  rw [hH]
theorem wLf_still {m : MW} (k : Still N nb G G') : wlkLeft G' m = wlkLeft G m := by
  unfold wlkLeft
  rw [k.ranks, k.rank]
theorem oLf_still {o : On} (h : OnOk N nb bk G o) (k : Still N nb G G') (hb : ∀ s, 0 ≤ bk s ∧ bk s < nb) : oLf G' o = oLf G o := by
  unfold oLf
  by_cases e0 : o.kd = 0
  · rw [if_pos e0, if_pos e0, iLf_still (h.i e0).1 k hb]
  · by_cases e1 : o.kd = 1
    · rw [if_neg e0, if_neg e0, if_pos e1, if_pos e1, rLf_still (h.r e1).1 k hb]
    · rw [if_neg e0, if_neg e0, if_neg e1, if_neg e1, wLf_still k]
theorem rLf_most {m : MR} (h : RemI N bk G m) (hi : GbInv N nb bk G) : rLf G m ≤ G.ranks.toNat + 4 := by
  have hpr := h.pr
  obtain ⟨st, co, bu, sl, wd, ah, pr, be, ma, he⟩ := m
  simp only at hpr
  match st with
  | 0 => show 2 ≤ _; omega
  | 1 => show 2 ≤ _; omega
  | 2 =>
    show (if G.W sl = wd then 1 else 3) ≤ _
    split <;> omega
  | 3 =>
    show G.ranks.toNat + 2 ≤ _
    omega
  | 4 =>
    have := hi.rk _ _ (hpr (.inl rfl))
    show (if frB G _ || decide (G.W pr % 2 = 0) then (G.rank pr).toNat + 2 else G.ranks.toNat + 4) ≤ _
    split <;> omega
  | 5 =>
    show (if frB G _ then 1 else G.ranks.toNat + 3) ≤ _
    split <;> omega
  | n + 6 => exact Nat.zero_le _
theorem iLf_most (m : MI) : iLf G m ≤ 5 := by
  unfold iLf
  split
  · omega
  · omega
  · split <;> omega
  · split <;> omega
  · omega
theorem wLf_most {o : On} (h : WkOn N nb bk G o) (hi : GbInv N nb bk G) : wlkLeft G o.mw ≤ G.ranks.toNat + 1 := by
  obtain ⟨c0, c1, c2, c3⟩ := h
  rcases c3 with ⟨b1, b2, b3, b4, b5, b6, b7, b8⟩ | ⟨b1, b2, b3, b4⟩ | ⟨b1, b2, b3, b4⟩
  · unfold wlkLeft
    rw [b3]
    exact Nat.le_refl _
  · rw [wlkLeft_on _ b3]
    have := hi.rk _ _ b4.g
    omega
  · rw [wlkLeft_end _ b3]
    omega
theorem oLf_most {o : On} (h : OnOk N nb bk G o) (hi : GbInv N nb bk G) (hr : G.ranks ≤ N) (h1 : 1 ≤ N) : oLf G o ≤ N + 4 := by
  unfold oLf
  by_cases e0 : o.kd = 0
  · rw [if_pos e0]
    have := iLf_most (G := G) o.mi
    omega
  · by_cases e1 : o.kd = 1
    · rw [if_neg e0, if_pos e1]
      have := rLf_most (h.r e1).1 hi
      omega
    · rw [if_neg e0, if_neg e1]
      have := wLf_most (h.w (by have := h.k; omega)) hi
      omega
theorem oAl_pos {o : On} (h : OnOk N nb bk G o) (hd : o.dn = false) : 1 ≤ oAl x G o := by
  unfold oAl
  by_cases e0 : o.kd = 0
  · rw [if_pos e0]
    obtain ⟨a, b, c⟩ := h.i e0
    have : ¬ o.mi.st = 4 := fun e => by have := c.2 e; rw [hd] at this; cases this
    have := a.st
    unfold insLeft
    rcases (by omega : o.mi.st = 0 ∨ o.mi.st = 1 ∨ o.mi.st = 2 ∨ o.mi.st = 3) with e | e | e | e <;> rw [e]
    · show 1 ≤ 4; omega
    · show 1 ≤ 3; omega
    · show 1 ≤ (if _ then 2 else 5); split <;> omega
    · show 1 ≤ (if _ then 1 else 4); split <;> omega
  · by_cases e1 : o.kd = 1
    · rw [if_neg e0, if_pos e1]
      obtain ⟨a, b, c, d⟩ := h.r e1
      have : ¬ o.mr.st = 6 := fun e => by have := d.2 e; rw [hd] at this; cases this
      have := a.st
      unfold rAl
      rcases (by omega : o.mr.st = 0 ∨ o.mr.st = 1 ∨ o.mr.st = 2 ∨ o.mr.st = 3 ∨ o.mr.st = 4 ∨ o.mr.st = 5) with e | e | e | e | e | e <;> rw [e]
      · show 1 ≤ _ + 3; omega
      · show 1 ≤ _ + 3; omega
      · show 1 ≤ (if G.W o.mr.sl = o.mr.wd then 2 * G.ranks.toNat + 2 else 2 * G.ranks.toNat + 4); split <;> omega
      · show 1 ≤ _ + 1; omega
      · show 1 ≤ (if frB G o.mr then 2 * (G.rank o.mr.pr).toNat + 2 else 2 * (G.rank o.mr.pr).toNat + 3 + 2 * G.ranks.toNat); split <;> omega
      · show 1 ≤ (if frB G o.mr then 2 * (G.rank o.mr.pr).toNat + 1 else 2 * (G.rank o.mr.pr).toNat + 2 + 2 * G.ranks.toNat); split <;> omega
    · rw [if_neg e0, if_neg e1]
      obtain ⟨c0, c1, c2, c3⟩ := h.w (by have := h.k; omega)
      rcases c3 with ⟨b1, b2, b3, b4, b5, b6, b7, b8⟩ | ⟨b1, b2, b3, b4⟩ | ⟨b1, b2, b3, b4⟩
      · unfold wlkLeft
        rw [b3]
        show 1 ≤ _ + 1
        omega
      · rw [wlkLeft_on _ b3]
        omega
      · rw [hd] at b2
        cases b2
theorem oLf_pos {o : On} (h : OnOk N nb bk G o) (hd : o.dn = false) : 1 ≤ oLf G o := by
  unfold oLf
  by_cases e0 : o.kd = 0
  · rw [if_pos e0]
    obtain ⟨a, b, c⟩ := h.i e0
    have : ¬ o.mi.st = 4 := fun e => by have := c.2 e; rw [hd] at this; cases this
    have := a.st
    unfold iLf
    rcases (by omega : o.mi.st = 0 ∨ o.mi.st = 1 ∨ o.mi.st = 2 ∨ o.mi.st = 3) with e | e | e | e <;> rw [e]
    · show 1 ≤ 4; omega
    · show 1 ≤ 3; omega
    · show 1 ≤ (if _ then 2 else 5); split <;> omega
    · show 1 ≤ (if _ then 1 else 4); split <;> omega
  · by_cases e1 : o.kd = 1
    · rw [if_neg e0, if_pos e1]
      obtain ⟨a, b, c, d⟩ := h.r e1
      have : ¬ o.mr.st = 6 := fun e => by have := d.2 e; rw [hd] at this; cases this
      have := a.st
      unfold rLf
      rcases (by omega : o.mr.st = 0 ∨ o.mr.st = 1 ∨ o.mr.st = 2 ∨ o.mr.st = 3 ∨ o.mr.st = 4 ∨ o.mr.st = 5) with e | e | e | e | e | e <;> rw [e]
      · show 1 ≤ 2; omega
      · show 1 ≤ 2; omega
      · show 1 ≤ (if G.W o.mr.sl = o.mr.wd then 1 else 3); split <;> omega
      · show 1 ≤ _ + 2; omega
      · show 1 ≤ (if frB G o.mr || decide (G.W o.mr.pr % 2 = 0) then (G.rank o.mr.pr).toNat + 2 else G.ranks.toNat + 4); split <;> omega
      · show 1 ≤ (if frB G o.mr then 1 else G.ranks.toNat + 3); split <;> omega
    · rw [if_neg e0, if_neg e1]
      obtain ⟨c0, c1, c2, c3⟩ := h.w (by have := h.k; omega)
      rcases c3 with ⟨b1, b2, b3, b4, b5, b6, b7, b8⟩ | ⟨b1, b2, b3, b4⟩ | ⟨b1, b2, b3, b4⟩
      · unfold wlkLeft
        rw [b3]
        show 1 ≤ _ + 1
        omega
      · rw [wlkLeft_on _ b3]
        omega
      · rw [hd] at b2
        cases b2
/-- What is left of a machine whatever the others do. -/
def phi (N : Nat) (bk : Int → Int) (G : Gb) (o : On) : Nat := oLf G o + (N + 4) * cG N bk G
theorem phi_mul (a b : Nat) (h : a + 1 ≤ b) : (N + 4) * a + (N + 4) ≤ (N + 4) * b := by
  have := Nat.mul_le_mul_left (N + 4) h
  rw [Nat.mul_add, Nat.mul_one] at this
  exact this
theorem phi_oth {o : On} (d : Dsc N nb bk G G') (h : OnOk N nb bk G o) (h' : OnOk N nb bk G' o) (hi : GbInv N nb bk G) (hi' : GbInv N nb bk G') (hN : N ≤ 4096) (hb : ∀ s, 0 ≤ bk s ∧ bk s < nb) (hr : G'.ranks ≤ N) (h1 : 1 ≤ N) : phi N bk G' o ≤ phi N bk G o := by
  unfold phi
  rcases d with k | k
  · rw [oLf_still h k hb, k.cG hi hN hb]
    exact Nat.le_refl _
  · have := oLf_most h' hi' hr h1
    have := phi_mul (N := N) _ _ k
    omega
theorem phi_own {o o' : On} (d : Dsc N nb bk G G') (hs : Still N nb G G' → oLf G' o' + 1 ≤ oLf G o) (h : OnOk N nb bk G o) (hd : o.dn = false) (h' : OnOk N nb bk G' o') (hi : GbInv N nb bk G) (hi' : GbInv N nb bk G') (hN : N ≤ 4096) (hb : ∀ s, 0 ≤ bk s ∧ bk s < nb) (hr : G'.ranks ≤ N) (h1 : 1 ≤ N) : phi N bk G' o' + 1 ≤ phi N bk G o := by
  unfold phi
  rcases d with k | k
  · have := hs k
    rw [k.cG hi hN hb]
    omega
  · have := oLf_most h' hi' hr h1
    have := phi_mul (N := N) _ _ k
    have := oLf_pos h hd
    omega
theorem phi_most {o : On} (h : OnOk N nb bk G o) (hi : GbInv N nb bk G) (hr : G.ranks ≤ N) (h1 : 1 ≤ N) : phi N bk G o ≤ (3 * N + 2) * (3 * N + 8) := by
  have a := oLf_most h hi hr h1
  have b := cG_most N bk G
  have c := Nat.mul_le_mul_left (N + 4) b
  have d : (N + 4) * (3 * N) + (N + 4) ≤ (3 * N + 2) * (3 * N + 8) := by
    have e : (N + 4) * (3 * N) + (N + 4) = (N + 4) * (3 * N + 1) := by rw [Nat.mul_add, Nat.mul_one]
    rw [e, Nat.mul_comm (N + 4)]
    exact Nat.mul_le_mul (by omega) (by omega)
  unfold phi
  omega
theorem phi_pos {o : On} (h : OnOk N nb bk G o) (hd : o.dn = false) : 1 ≤ phi N bk G o := by
  have := oLf_pos h hd
  unfold phi
  omega
end
end Go.Proofs.YteekompojgbkhaaGreat

namespace Go.Proofs.YteekompojgbkhaaGreat
open Go.ChangeShapes Go.WideShapes Go.ChangeAt Go.RowKit Go.MuLone Go.RwLone
set_option linter.unusedVariables false
set_option linter.unusedSectionVars false
/-- What a move does, as far as steps are counted. -/
def MvP (N : Nat) (nb : Int) (bk : Int → Int) (S : AS) (x : XS) (G : Gb) (o : On) (S' : AS) (x' : XS) (G' : Gb) (o' : On) : Prop := (o.dn = true → S' = S ∧ x' = x ∧ Still N nb G G') ∧ (o.dn = false → OneA S x S' x' ∧ Dsc N nb bk G G' ∧ (Still N nb G G' → oLf G' o' + 1 ≤ oLf G o) ∧ oAl x' G' o' + 1 ≤ oAl x G o)
section
variable {N : Nat} {nb : Int} {bk : Int → Int} {S S' : AS} {x x' : XS} {G G' : Gb} {rows rows' : Int → List Int} {all : List On}
theorem Still.refl (G : Gb) : Still N nb G G := ⟨fun _ _ _ => rfl, fun _ _ _ _ => rfl, rfl, rfl, rfl, rfl⟩
theorem BkI.ranks (h : BkI N nb bk S x G rows all) : G.ranks ≤ N := h.n.most (by omega)
theorem oLf_lt0 {o o' : On} (h : o.kd = 0) (h' : o'.kd = 0) (k : iLf G' o'.mi + 1 ≤ iLf G o.mi) : oLf G' o' + 1 ≤ oLf G o := by
  unfold oLf
  rw [if_pos h, if_pos h']
  exact k
theorem oLf_lt1 {o o' : On} (h : o.kd = 1) (h' : o'.kd = 1) (k : rLf G' o'.mr + 1 ≤ rLf G o.mr) : oLf G' o' + 1 ≤ oLf G o := by
  unfold oLf
  rw [if_neg (show ¬ o.kd = 0 by omega), if_neg (show ¬ o'.kd = 0 by omega), if_pos h, if_pos h']
  exact k
theorem oAl_lt0 {o o' : On} (h : o.kd = 0) (h' : o'.kd = 0) (k : insLeft x' o'.mi + 1 ≤ insLeft x o.mi) : oAl x' G' o' + 1 ≤ oAl x G o := by
  unfold oAl
  rw [if_pos h, if_pos h']
  exact k
theorem oAl_lt1 {o o' : On} (h : o.kd = 1) (h' : o'.kd = 1) (k : rAl G' o'.mr + 1 ≤ rAl G o.mr) : oAl x' G' o' + 1 ≤ oAl x G o := by
  unfold oAl
  rw [if_neg (show ¬ o.kd = 0 by omega), if_neg (show ¬ o'.kd = 0 by omega), if_pos h, if_pos h']
  exact k
theorem BkI.mvI (h : BkI N nb bk S x G rows all) (hN : N ≤ 4096) (hb : ∀ s, 0 ≤ bk s ∧ bk s < nb) {i : Nat} {o : On} (hi : all[i]? = some o) (h0 : o.kd = 0) : ∃ G' rows', BkI N nb bk (insP S x o.mi).2.1.S (insP S x o.mi).2.1.x G' rows' (all.set i { o with mi := (insP S x o.mi).2.2, dn := (insP S x o.mi).1 }) ∧ (((insP S x o.mi).1 = o.dn ∧ rows' = rows ∧ G'.ins = G.ins ∧ G'.rem = G.rem ∧ G'.rank = G.rank ∧ G'.ranks = G.ranks) ∨ ((insP S x o.mi).1 = true ∧ o.dn = false ∧ (insP S x o.mi).2.2.code = 0 ∧ rows' = (fun c => if c = bk o.sl then o.sl :: rows (bk o.sl) else rows c) ∧ G'.ins = updI G.ins o.sl 2 ∧ G'.rem = G.rem ∧ G'.rank = updI G.rank o.sl G.ranks ∧ G'.ranks = G.ranks + 1)) ∧ MvP N nb bk S x G o (insP S x o.mi).2.1.S (insP S x o.mi).2.1.x G' { o with mi := (insP S x o.mi).2.2, dn := (insP S x o.mi).1 } := by
  obtain ⟨G', rows', h1, h2⟩ := h.ins (by omega) hb hi h0
  refine ⟨G', rows', h1, h2, fun hd => ?_, fun hd => ?_⟩
  · obtain ⟨a1, a2, a3⟩ := (h.ok i o hi).i h0
    have e := ins_none (S := S) (x := x) o.mi (a3.1 hd)
    have hl' := h1.l
    rw [e] at hl' ⊢
    rcases h2 with ⟨_, _, f1, f2, f3, f4⟩ | ⟨_, f, _⟩
    · exact ⟨rfl, rfl, still_of h.l hl' (fun _ => rfl) (fun _ _ _ _ => rfl) f1 f2 f3 f4⟩
    · rw [hd] at f
      cases f
  · obtain ⟨a1, a2, a3⟩ := (h.ok i o hi).i h0
    have h3 : o.mi.st ≤ 3 := by
      have := a1.st
      have : ¬ o.mi.st = 4 := fun e => by have := a3.2 e; rw [hd] at this; cases this
      omega
    have p := ins_pot h.l h.g hN (by have := h.ranks; omega) hb o.mi a1 h3 h1.l (by
      rcases h2 with ⟨f0, _, f1, f2, f3, f4⟩ | ⟨f0, _, _, _, f1, f2, _⟩
      · exact .inl ⟨f0.trans hd, f1, f2, f3, f4⟩
      · exact .inr ⟨f0, by rw [a2]; exact f1, f2⟩)
    refine ⟨ins_one h.l hb o.mi a1 h3, p.1, fun k => ?_, ?_⟩
    · exact oLf_lt0 h0 h0 (p.2 k)
    · exact oAl_lt0 h0 h0 (ins_left h.l hb o.mi a1 h3)
theorem BkI.mvR (h : BkI N nb bk S x G rows all) (hN : N ≤ 4096) (hb : ∀ s, 0 ≤ bk s ∧ bk s < nb) {i : Nat} {o : On} (hi : all[i]? = some o) (h0 : o.kd = 1) : ∃ G' rows', BkI N nb bk (remP S x o.mr).2.1.S (remP S x o.mr).2.1.x G' rows' (all.set i { o with mr := (remP S x o.mr).2.2, dn := (remP S x o.mr).1, mq := (remP S x o.mr).2.2.ma }) ∧ (((remP S x o.mr).1 = true → (remP S x o.mr).2.2.ma = true ∧ (remP S x o.mr).2.2.co = 0) ∧ (o.dn = true → (remP S x o.mr).1 = true) ∧ G'.ins = G.ins ∧ G'.rank = G.rank ∧ G'.ranks = G.ranks ∧ (((remP S x o.mr).2.2.ma = o.mq ∧ rows' = rows ∧ G'.rem = G.rem) ∨ (o.mq = false ∧ (remP S x o.mr).2.2.ma = true ∧ rows' = (fun c => if c = bk o.sl then (rows (bk o.sl)).filter (fun u => !(u == o.sl)) else rows c) ∧ G'.rem = updI G.rem o.sl 2))) ∧ MvP N nb bk S x G o (remP S x o.mr).2.1.S (remP S x o.mr).2.1.x G' { o with mr := (remP S x o.mr).2.2, dn := (remP S x o.mr).1, mq := (remP S x o.mr).2.2.ma } := by
  obtain ⟨G', rows', h1, h2⟩ := h.rem (by omega) hb hi h0
  refine ⟨G', rows', h1, h2, fun hd => ?_, fun hd => ?_⟩
  · obtain ⟨a1, a2, a4, a3⟩ := (h.ok i o hi).r h0
    have e := rem_none (S := S) (x := x) o.mr (a3.1 hd)
    have hl' := h1.l
    rw [e] at hl' ⊢
    obtain ⟨_, _, f1, f3, f4, f⟩ := h2
    have em : (remP S x o.mr).2.2.ma = o.mq := by
      have k : ∀ m : MR, m.st = 6 → (remP S x m).2.2.ma = m.ma := fun m e => by
        obtain ⟨st, co, bu, sl, wd, ah, pr, be, ma, he⟩ := m
        cases e
        rfl
      rw [a4, k _ (a3.1 hd)]
    rcases f with ⟨_, _, f2⟩ | ⟨g1, g2, _⟩
    · exact ⟨rfl, rfl, still_of h.l hl' (fun _ => rfl) (fun _ _ _ _ => rfl) f1 f2 f3 f4⟩
    · rw [em, g1] at g2
      cases g2
  · obtain ⟨a1, a2, a4, a3⟩ := (h.ok i o hi).r h0
    have h5 : o.mr.st ≤ 5 := by
      have := a1.st
      have : ¬ o.mr.st = 6 := fun e => by have := a3.2 e; rw [hd] at this; cases this
      omega
    obtain ⟨_, _, f1, f3, f4, f⟩ := h2
    have p := rem_pot h.l h.g hN (by have := h.ranks; omega) hb o.mr a1 h5 h1.l f1 f3 f4 (by
      rcases f with ⟨g1, _, g2⟩ | ⟨g1, g2, _, g3⟩
      · exact .inl ⟨g1.trans a4, g2⟩
      · exact .inr ⟨a4.symm.trans g1, g2, by rw [a2]; exact g3⟩)
    refine ⟨rem_one h.l hb o.mr a1 h5, p.1, fun k => ?_, ?_⟩
    · exact oLf_lt1 h0 h0 (p.2.1 k)
    · exact oAl_lt1 h0 h0 p.2.2
end
end Go.Proofs.YteekompojgbkhaaGreat
