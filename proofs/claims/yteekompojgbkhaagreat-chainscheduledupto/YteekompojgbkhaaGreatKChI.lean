import Derived.Test.YteekompojgbkhaaGreatKBqD
import Derived.Test.YteekompojgbkhaaGreatKRcA
import Derived.Test.YteekompojgbkhaaGreatKChD
import Derived.Test.YteekompojgbkhaaGreatKChH
namespace Go.Proofs.YteekompojgbkhaaGreat
open Go.ChangeShapes Go.WideShapes Go.ChangeAt Go.RowKit Go.MuLone Go.RwLone
set_option linter.unusedVariables false
set_option linter.unusedSectionVars false
/-- What is known of a walk: its bucket, how many Inserts were done at its first step, the slots that were in its bucket then, those that it has met. -/
structure TrP where
  k : Int
  rk : Int
  due : List Int
  met : List Int
/-- A walk that has begun and is not ended. -/
structure WlkI (N : Int) (bk : Int → Int) (G : Gb) (m : MW) (t : TrP) : Prop where
  own : m.own = 4097 + t.k
  code : m.code = 0
  ended : m.ended = false
  g : Gin N bk G t.k m.pend
  lt : G.rank m.pend < t.rk
  rks : t.rk ≤ G.ranks
  due : ∀ u, u ∈ t.due → Gin N bk G t.k u
  all : ∀ u, u ∈ t.due → G.rem u = 2 ∨ u ∈ t.met ∨ G.rank u ≤ G.rank m.pend
  mets : ∀ u, u ∈ t.met → Gin N bk G t.k u ∧ G.rank m.pend < G.rank u
  comp : ∀ u, Gin N bk G t.k u → G.rem u ≠ 2 → G.rank u < t.rk → u ∈ t.due
section
variable {N nb : Int} {bk : Int → Int} {S : AS} {x : XS} {G G' : Gb}
theorem WlkI.le {m : MW} {t : TrP} (h : WlkI N bk G m t) (k : GbLe G G') : WlkI N bk G' m t := by
  have g := h.g.le k
  refine ⟨h.own, h.code, h.ended, g.1, by rw [g.2]; exact h.lt, Int.le_trans h.rks k.rks, fun u hu => ((h.due u hu).le k).1, fun u hu => ?_, fun u hu => ?_, fun u hu hr hk => ?_⟩
  · rw [g.2, ((h.due u hu).le k).2]
    exact (h.all u hu).imp (k.rem u) id
  · have e := (h.mets u hu).1.le k
    rw [g.2, e.2]
    exact ⟨e.1, (h.mets u hu).2⟩
  · have hi : G.ins u = 2 := by
      by_cases hi : G.ins u = 2
      · exact hi
      · have := k.new u hi hu.2.2.1
        have := h.rks
        omega
    have gu : Gin N bk G t.k u := ⟨hu.1, hu.2.1, hi, hu.2.2.2⟩
    exact h.comp u gu (fun e => hr (k.rem u e)) (by rw [(gu.le k).2] at hk; exact hk)
theorem InsI.le {m : MI} (h : InsI N bk G m) (k : GbLe G G') (hW : G'.W m.sl = G.W m.sl) (hi : G'.ins m.sl = G.ins m.sl) : InsI N bk G' m := ⟨h.lo, h.up, h.bu, h.st, fun e => hi.trans (h.on e), fun e => hW.trans (h.w0 e), fun e => hW.trans (h.w3 e), fun e => ⟨(h.dn e).1, hi.trans (h.dn e).2⟩⟩
theorem RemI.le {m : MR} (h : RemI N bk G m) (k : GbLe G G') (hr : G'.rem m.sl = G.rem m.sl) : RemI N bk G' m := by
  refine ⟨(h.g.le k).1, h.st, fun e => ⟨(h.un e).1, hr.trans (h.un e).2⟩, fun e => ⟨(h.ob e).1, hr.trans (h.ob e).2⟩, fun e => ((h.pr e).le k).1, fun e => (h.ah e).imp id (fun g => (g.le k).1), fun e => ?_, h.co⟩
  have gp := h.pr (.inr e)
  have hb := h.be e
  have := k.frz m.pr gp.2.2.1 hb.1
  rw [this]
  exact hb
theorem lookW_ok (hN : N ≤ 4096) (m : MW) (k n : Int) (k0 : 0 ≤ k) (ho : m.own = 4097 + k) (hn : Gto N bk G k n) : (lookW m n = (true, { m with ended := true, code := 0, st := 3 }) ∧ ¬ Gin N bk G k n) ∨ (lookW m n = (decide (¬ m.slot = 0), { m with pend := n, st := 2 }) ∧ Gin N bk G k n) := by
  have e := hn.end_or hN k0
  by_cases h : 4096 < n
  · have h1 := e.1 h
    have h2 : ¬ (m.own ≠ 0 ∧ n ≠ m.own) := fun h3 => h3.2 (by rw [ho]; exact h1.1)
    refine .inl ⟨?_, h1.2⟩
    show (if n = 0 then _ else if 4096 < n then (if m.own ≠ 0 ∧ n ≠ m.own then _ else _) else _) = _
    rw [if_neg e.2.2, if_pos h, if_neg h2]
    rfl
  · refine .inr ⟨?_, e.2.1 h⟩
    show (if n = 0 then _ else if 4096 < n then _ else _) = _
    rw [if_neg e.2.2, if_neg h]
/-- What a step of a walk is, and what is known of it then. -/
def WlkGo (N nb : Int) (bk : Int → Int) (G : Gb) (t : TrP) (r : Bool × CS × MW) : Prop := Lnk N nb r.2.1.S r.2.1.x G ∧ r.2.2.code = 0 ∧ (r.1 = true ↔ (r.2.2.slot ≠ 0 ∨ r.2.2.ended = true)) ∧ (r.2.2.slot ≠ 0 → Gin N bk G t.k r.2.2.slot ∧ r.2.2.slot ∈ t.due ∧ G.rank r.2.2.slot < t.rk ∧ ∀ u, u ∈ t.met → G.rank r.2.2.slot < G.rank u) ∧ (r.2.2.ended = false → r.2.2.st = 2 ∧ WlkI N bk G r.2.2 { t with met := if r.2.2.slot = 0 then t.met else t.met ++ [r.2.2.slot] }) ∧ (r.2.2.ended = true → r.2.2.st = 3 ∧ ∀ u, u ∈ t.due → G.rem u = 2 ∨ u ∈ (if r.2.2.slot = 0 then t.met else t.met ++ [r.2.2.slot]))
/-- The first step. -/
theorem wlk_go0 (hl : Lnk N nb S x G) (h : GbInv N nb bk G) (hN : N ≤ 4096) (m : MW) (t : TrP) (k0 : 0 ≤ t.k) (k1 : t.k < nb) (hs : m.st = 0) (hk : m.src = t.k) (hc : m.code = 0) (hz : m.slot = 0) (he : m.ended = false) (hr : t.rk = G.ranks) (hm : t.met = []) (hd : ∀ u, u ∈ t.due ↔ Gin N bk G t.k u ∧ G.rem u ≠ 2) : WlkGo N nb bk G t (wlkP S x m) := by
  obtain ⟨st, src, own, slot, pend, ended, code⟩ := m
  simp only at hs hk hc hz he
  subst hs hk hc hz he
  have hi := hl.inb k0 k1
  have e : wlkP S x ⟨0, t.k, own, 0, pend, false, 0⟩ = ((lookW ⟨0, t.k, 4097 + t.k, 0, pend, false, 0⟩ (x.hd t.k.toNat / 2)).1, ⟨S, x.cn1⟩, (lookW ⟨0, t.k, 4097 + t.k, 0, pend, false, 0⟩ (x.hd t.k.toNat / 2)).2) := by
    show (if inB x t.k then _ else _) = _
    rw [if_pos hi]
  rw [e]
  have hx := (h.hx t.k k0 k1).1
  have hg := fun u => h.hgap t.k u k0 k1
  rw [hl.h t.k k0 k1] at hx hg
  rcases lookW_ok hN ⟨0, t.k, 4097 + t.k, 0, pend, false, 0⟩ t.k (x.hd t.k.toNat / 2) k0 rfl hx with ⟨e2, hn⟩ | ⟨e2, hn⟩
  · rw [e2]
    refine ⟨hl.cn, rfl, ⟨fun _ => .inr rfl, fun _ => rfl⟩, fun h => absurd rfl h, fun h => (by cases h), fun _ => ⟨rfl, fun u hu => ?_⟩⟩
    have := (hd u).1 hu
    exact .inl (hg u this.1 (fun hi => absurd hi hn))
  · rw [e2]
    refine ⟨hl.cn, rfl, ⟨fun h => (by cases h), fun h => h.elim (fun h => absurd rfl h) (fun h => (by cases h))⟩, fun h => absurd rfl h, fun _ => ⟨rfl, ?_⟩, fun h => (by cases h)⟩
    refine ⟨rfl, rfl, rfl, hn, ?_, ?_, fun u hu => ((hd u).1 hu).1, fun u hu => ?_, fun u hu => ?_, fun u gu ur _ => (hd u).2 ⟨gu, ur⟩⟩
    · show G.rank (x.hd t.k.toNat / 2) < t.rk
      rw [hr]
      exact (h.rk _ _ hn).2
    · show t.rk ≤ G.ranks
      rw [hr]
      exact Int.le_refl _
    · have := (hd u).1 hu
      by_cases hle : G.rank u ≤ G.rank (x.hd t.k.toNat / 2)
      · exact .inr (.inr hle)
      · exact .inl (hg u this.1 (fun _ => by omega))
    · have hu : u ∈ t.met := hu
      rw [hm] at hu
      cases hu
/-- Every other step. -/
theorem wlk_go2 (hl : Lnk N nb S x G) (h : GbInv N nb bk G) (hN : N ≤ 4096) (m : MW) (t : TrP) (k0 : 0 ≤ t.k) (hs : m.st = 2) (hm : WlkI N bk G m t) : WlkGo N nb bk G t (wlkP S x m) := by
  obtain ⟨st, src, own, slot, pend, ended, code⟩ := m
  obtain ⟨ho, hc, he, g, lt, rks, hd, ha, hmt, cp⟩ := hm
  simp only at hs ho hc he g lt ha hmt
  subst hs ho hc he
  have hv := hl.lv _ g.1 g.2.1
  have hw := hl.w _ g.1 g.2.1
  have nx := h.nx _ _ g
  have dn := h.dn _ _ g
  have gp := fun u => h.gap t.k pend u g
  have mk := h.mrk _ _ g
  rw [hw] at nx dn gp mk
  have p0 : pend ≠ 0 := by have := g.1; omega
  have e : wlkP S x ⟨2, src, 4097 + t.k, slot, pend, false, 0⟩ = ((lookW ⟨2, src, 4097 + t.k, if S.word (atC S pend x.cell) % 2 == 1 then 0 else pend, pend, false, 0⟩ (S.word (atC S pend x.cell) / 2)).1, ⟨acc1 S, x⟩, (lookW ⟨2, src, 4097 + t.k, if S.word (atC S pend x.cell) % 2 == 1 then 0 else pend, pend, false, 0⟩ (S.word (atC S pend x.cell) / 2)).2) := by
    show (if liv S pend then _ else _) = _
    rw [if_pos hv]
  rw [e]
  clear e
  have K : ∀ z : Int, (z = 0 ∧ G.rem pend = 2 ∨ z = pend ∧ G.rem pend ≠ 2) → WlkGo N nb bk G t ((lookW ⟨2, src, 4097 + t.k, z, pend, false, 0⟩ (S.word (atC S pend x.cell) / 2)).1, ⟨acc1 S, x⟩, (lookW ⟨2, src, 4097 + t.k, z, pend, false, 0⟩ (S.word (atC S pend x.cell) / 2)).2) := by
    intro z hz
    have sl : z ≠ 0 → Gin N bk G t.k z ∧ z ∈ t.due ∧ G.rank z < t.rk ∧ ∀ u, u ∈ t.met → G.rank z < G.rank u := fun h0 => by
      rcases hz with hz | hz
      · exact absurd hz.1 h0
      · rw [hz.1]
        exact ⟨g, cp pend g hz.2 lt, lt, fun u hu => (hmt u hu).2⟩
    have inm : ∀ u, u ∈ t.met → u ∈ (if z = 0 then t.met else t.met ++ [z]) := fun u hu => by
      split
      · exact hu
      · exact List.mem_append_left _ hu
    have onm : ∀ u, u ∈ (if z = 0 then t.met else t.met ++ [z]) → u ∈ t.met ∨ u = pend := fun u hu => by
      split at hu
      · exact .inl hu
      · rename_i h0
        rcases List.mem_append.1 hu with h1 | h1
        · exact .inl h1
        · rcases hz with hz | hz
          · exact absurd hz.1 h0
          · exact .inr ((List.mem_singleton.1 h1).trans hz.1)
    have cov : ∀ u, u ∈ t.due → (∀ hl : G.rank u < G.rank pend, G.rem u = 2 ∨ Gin N bk G t.k (S.word (atC S pend x.cell) / 2) ∧ G.rank u ≤ G.rank (S.word (atC S pend x.cell) / 2)) := fun u hu hlt => by
      by_cases h5 : Gin N bk G t.k (S.word (atC S pend x.cell) / 2) ∧ G.rank u ≤ G.rank (S.word (atC S pend x.cell) / 2)
      · exact .inr h5
      · refine .inl (gp u (hd u hu) hlt (fun hi => ?_))
        by_cases h6 : G.rank u ≤ G.rank (S.word (atC S pend x.cell) / 2)
        · exact absurd ⟨hi, h6⟩ h5
        · omega
    have fin : ∀ u, u ∈ t.due → G.rem u = 2 ∨ u ∈ (if z = 0 then t.met else t.met ++ [z]) ∨ Gin N bk G t.k (S.word (atC S pend x.cell) / 2) ∧ G.rank u ≤ G.rank (S.word (atC S pend x.cell) / 2) := fun u hu => by
      rcases ha u hu with h1 | h1 | h1
      · exact .inl h1
      · exact .inr (.inl (inm u h1))
      · by_cases h2 : G.rank u < G.rank pend
        · exact (cov u hu h2).imp id .inr
        · have e : u = pend := h.inj t.k u pend (hd u hu) g (by omega)
          rcases hz with hz | hz
          · exact .inl (by rw [e]; exact hz.2)
          · refine .inr (.inl ?_)
            rw [if_neg (by rw [hz.1]; exact p0), hz.1, e]
            exact List.mem_append_right _ (List.mem_singleton.2 rfl)
    rcases lookW_ok hN ⟨2, src, 4097 + t.k, z, pend, false, 0⟩ t.k (S.word (atC S pend x.cell) / 2) k0 rfl nx with ⟨e2, hn⟩ | ⟨e2, hn⟩
    · rw [e2]
      refine ⟨hl.acc, rfl, ⟨fun _ => .inr rfl, fun _ => rfl⟩, sl, fun h => (by cases h), fun _ => ⟨rfl, fun u hu => ?_⟩⟩
      rcases fin u hu with h1 | h1 | h1
      · exact .inl h1
      · exact .inr h1
      · exact absurd h1.1 hn
    · rw [e2]
      refine ⟨hl.acc, rfl, ⟨fun h => .inl (of_decide_eq_true h), fun h => h.elim (fun h => decide_eq_true h) (fun h => (by cases h))⟩, sl, fun _ => ⟨rfl, ?_⟩, fun h => (by cases h)⟩
      refine ⟨rfl, rfl, rfl, hn, ?_, rks, hd, fun u hu => (fin u hu).imp id (fun h => h.imp id (fun h => h.2)), fun u hu => ?_, cp⟩
      · show G.rank (S.word (atC S pend x.cell) / 2) < t.rk
        have := dn hn
        omega
      · show Gin N bk G t.k u ∧ G.rank (S.word (atC S pend x.cell) / 2) < G.rank u
        have := dn hn
        rcases onm u hu with h1 | h1
        · have := hmt u h1
          exact ⟨this.1, by omega⟩
        · rw [h1]
          exact ⟨g, this⟩
  by_cases hb : (S.word (atC S pend x.cell) % 2 == 1) = true
  · rw [if_pos hb]
    exact K 0 (.inl ⟨rfl, mk.1 (eq_of_beq hb)⟩)
  · rw [if_neg hb]
    exact K pend (.inr ⟨rfl, fun h => hb (beq_iff_eq.2 (mk.2 h))⟩)
end
end Go.Proofs.YteekompojgbkhaaGreat

namespace Go.Proofs.YteekompojgbkhaaGreat
set_option linter.unusedSimpArgs false
open Go.ChangeShapes Go.WideShapes Go.ChangeAt Go.RowKit Go.MuLone Go.RwLone
set_option linter.unusedVariables false
set_option maxRecDepth 100000
set_option maxHeartbeats 3200000
abbrev rinA (xb : Nat) (bu sl at_ hd : Int) (dn : Bool) (co tr : Int) : Array Value := #[.pointer (some ⟨xb, 0, none⟩), .int .i64 bu, .int .i64 sl, .int .i64 at_, .int .u64 hd, .bool dn, .int .i64 co, .int .i64 tr]
/-- The document's Insert in its block. -/
def RinH (w : World) (mb xb : Nat) (m : MI) : Prop := ∃ (at_ : Int) (dn : Bool), w.heap[mb]? = some (.cells (rinA xb m.bu m.sl at_ m.hd dn m.code m.tr) 235) ∧ (m.st < 4 → at_ = (m.st : Int) + 1 ∧ dn = false) ∧ (4 ≤ m.st → dn = true)
def RstI (w : World) (R : RL) (cap : Nat) (qv : Value) (Q : List Nat) (X : XL) (hc : Nat) (mb : Nat) (S : AS) (p : Bool × CS × MI) (e : Ending) (w' : World) : Prop := e = .returned (.bool p.1) ∧ RC w' R cap qv Q p.2.1.S X hc p.2.1.x ∧ RinH w' mb X.x p.2.2 ∧ Keeps (mrF R qv S X mb) w w'
end Go.Proofs.YteekompojgbkhaaGreat

namespace Go.Proofs.YteekompojgbkhaaGreat
open Go.ChangeShapes Go.WideShapes Go.ChangeAt Go.RowKit Go.MuLone Go.RwLone
set_option linter.unusedVariables false
set_option maxRecDepth 100000
set_option maxHeartbeats 3200000
theorem wlk_any (w : World) (L : Lay) (Q : List Nat) (S : AS) (X : XL) (x : XS) (mb : Nat) (m : MW) (h : CH w L Q S X x) (hm : WlkH w mb X.x m) (hn : ¬ chF L X mb) (hk : WdOk S x) : Calls Tryz.prog (wlkF m.st) #[.pointer (some ⟨mb, 0, none⟩)] w (StpW w L Q X mb (wlkP S x m)) := by
  obtain ⟨st, src, own, slot, pend, ended, code⟩ := m
  match st with
  | 0 =>
    cases hb : inB x src
    · exact wlk_head_out w L Q S X x mb ⟨0, src, own, slot, pend, ended, code⟩ h hm hn rfl hk hb
    · exact wlk_head_in w L Q S X x mb ⟨0, src, own, slot, pend, ended, code⟩ h hm hn rfl hk hb
  | 1 =>
    cases hl : liv S src
    · exact wlk_loadSource_dead w L Q S X x mb ⟨1, src, own, slot, pend, ended, code⟩ h hm hn rfl hk hl
    · exact wlk_loadSource_go w L Q S X x mb ⟨1, src, own, slot, pend, ended, code⟩ h hm hn rfl hk hl
  | 2 =>
    cases hl : liv S pend
    · exact wlk_loadPending_dead w L Q S X x mb ⟨2, src, own, slot, pend, ended, code⟩ h hm hn rfl hk hl
    · exact wlk_loadPending_go w L Q S X x mb ⟨2, src, own, slot, pend, ended, code⟩ h hm hn rfl hk hl
  | n + 3 =>
    refine (wlk_leave w mb X.x _ src own slot pend ended code hm).mono ?_
    rintro e w' ⟨rfl, h2, k2⟩
    have H0 : MB w L Q S X x mb (wlkC mb X.x ⟨n + 3, src, own, slot, pend, ended, code⟩) 94 := ⟨h, hm, hn⟩
    exact ⟨rfl, (H0.own h2 k2).h, h2, kM k2⟩
theorem wlk_call0 (w : World) (mb : Nat) (r : Bool) (R : World → Prop) (c0 : w.cell? ⟨mb, 1, none⟩ = some (.func (.func 46) #[.pointer (some ⟨mb, 0, none⟩)] #[])) (HC : Calls Tryz.prog 46 #[.pointer (some ⟨mb, 0, none⟩)] w fun e w' => e = .returned (.bool r) ∧ R w') : Calls Tryz.prog 20 #[.pointer (some ⟨mb, 0, none⟩)] w fun e w' => e = .returned (.bool r) ∧ R w' := by
  have HCC : Hid (∀ _ : Unit, _) := fun _ => HC
  clear HC
  go_enter Tryz.func20, Tryz.ntmps20
  go_wp2_with fail
  refine (HCC.out ()).mono ?_
  rintro e w1 ⟨rfl, hr⟩
  have HR : Hid (R w1) := hr
  clear hr HCC c0
  go_wp2
  go_ret
  exact ⟨rfl, HR.out⟩
theorem wlk_call1 (w : World) (mb : Nat) (r : Bool) (R : World → Prop) (c0 : w.cell? ⟨mb, 1, none⟩ = some (.func (.func 185) #[.pointer (some ⟨mb, 0, none⟩)] #[])) (HC : Calls Tryz.prog 185 #[.pointer (some ⟨mb, 0, none⟩)] w fun e w' => e = .returned (.bool r) ∧ R w') : Calls Tryz.prog 20 #[.pointer (some ⟨mb, 0, none⟩)] w fun e w' => e = .returned (.bool r) ∧ R w' := by
  have HCC : Hid (∀ _ : Unit, _) := fun _ => HC
  clear HC
  go_enter Tryz.func20, Tryz.ntmps20
  go_wp2_with fail
  refine (HCC.out ()).mono ?_
  rintro e w1 ⟨rfl, hr⟩
  have HR : Hid (R w1) := hr
  clear hr HCC c0
  go_wp2
  go_ret
  exact ⟨rfl, HR.out⟩
theorem wlk_call2 (w : World) (mb : Nat) (r : Bool) (R : World → Prop) (c0 : w.cell? ⟨mb, 1, none⟩ = some (.func (.func 133) #[.pointer (some ⟨mb, 0, none⟩)] #[])) (HC : Calls Tryz.prog 133 #[.pointer (some ⟨mb, 0, none⟩)] w fun e w' => e = .returned (.bool r) ∧ R w') : Calls Tryz.prog 20 #[.pointer (some ⟨mb, 0, none⟩)] w fun e w' => e = .returned (.bool r) ∧ R w' := by
  have HCC : Hid (∀ _ : Unit, _) := fun _ => HC
  clear HC
  go_enter Tryz.func20, Tryz.ntmps20
  go_wp2_with fail
  refine (HCC.out ()).mono ?_
  rintro e w1 ⟨rfl, hr⟩
  have HR : Hid (R w1) := hr
  clear hr HCC c0
  go_wp2
  go_ret
  exact ⟨rfl, HR.out⟩
theorem wlk_call3 (w : World) (mb : Nat) (r : Bool) (R : World → Prop) (c0 : w.cell? ⟨mb, 1, none⟩ = some (.func (.func 177) #[.pointer (some ⟨mb, 0, none⟩)] #[])) (HC : Calls Tryz.prog 177 #[.pointer (some ⟨mb, 0, none⟩)] w fun e w' => e = .returned (.bool r) ∧ R w') : Calls Tryz.prog 20 #[.pointer (some ⟨mb, 0, none⟩)] w fun e w' => e = .returned (.bool r) ∧ R w' := by
  have HCC : Hid (∀ _ : Unit, _) := fun _ => HC
  clear HC
  go_enter Tryz.func20, Tryz.ntmps20
  go_wp2_with fail
  refine (HCC.out ()).mono ?_
  rintro e w1 ⟨rfl, hr⟩
  have HR : Hid (R w1) := hr
  clear hr HCC c0
  go_wp2
  go_ret
  exact ⟨rfl, HR.out⟩
theorem wlk_step (w : World) (L : Lay) (Q : List Nat) (S : AS) (X : XL) (x : XS) (mb : Nat) (m : MW) (h : CH w L Q S X x) (hm : WlkH w mb X.x m) (hn : ¬ chF L X mb) (hk : WdOk S x) : Calls Tryz.prog 20 #[.pointer (some ⟨mb, 0, none⟩)] w (StpW w L Q X mb (wlkP S x m)) := by
  obtain ⟨st, src, own, slot, pend, ended, code⟩ := m
  match st with
  | 0 => exact wlk_call0 w mb _ _ ((cell?_heap hm 1).trans rfl) (wlk_any w L Q S X x mb _ h hm hn hk)
  | 1 => exact wlk_call1 w mb _ _ ((cell?_heap hm 1).trans rfl) (wlk_any w L Q S X x mb _ h hm hn hk)
  | 2 => exact wlk_call2 w mb _ _ ((cell?_heap hm 1).trans rfl) (wlk_any w L Q S X x mb _ h hm hn hk)
  | n + 3 => exact wlk_call3 w mb _ _ ((cell?_heap hm 1).trans rfl) (wlk_any w L Q S X x mb _ h hm hn hk)
theorem wlk_Slot (w : World) (mb xb : Nat) (m : MW) (hm : WlkH w mb xb m) : Calls Tryz.prog 21 #[.pointer (some ⟨mb, 0, none⟩)] w fun e w' => e = .returned (.int .i64 m.slot) ∧ w' = w := by
  have c : w.cell? ⟨mb, 4, none⟩ = some (.int .i64 m.slot) := (cell?_heap hm 4).trans rfl
  clear hm
  go_enter Tryz.func21, Tryz.ntmps21
  go_wp2
  go_ret
  exact ⟨rfl, rfl⟩
theorem wlk_Ended (w : World) (mb xb : Nat) (m : MW) (hm : WlkH w mb xb m) : Calls Tryz.prog 22 #[.pointer (some ⟨mb, 0, none⟩)] w fun e w' => e = .returned (.bool m.ended) ∧ w' = w := by
  have c : w.cell? ⟨mb, 6, none⟩ = some (.bool m.ended) := (cell?_heap hm 6).trans rfl
  clear hm
  go_enter Tryz.func22, Tryz.ntmps22
  go_wp2
  go_ret
  exact ⟨rfl, rfl⟩
theorem wlk_newWalk (w : World) (xb : Nat) (src : Int) : Calls Tryz.prog 19 #[.pointer (some ⟨xb, 0, none⟩), .int .i64 src] w fun e w' => e = .returned (.pointer (some ⟨w.heap.size, 0, none⟩)) ∧ WlkH w' w.heap.size xb ⟨0, src, 0, 0, 0, false, 0⟩ ∧ Keeps (fun _ => False) w w' ∧ w'.heap.size = w.heap.size + 1 := by
  go_enter Tryz.func19, Tryz.ntmps19
  go_wp2
  go_ret
  refine ⟨rfl, ?_, ?_, ?_⟩
  · exact heap_alloc_last _ _ _ rfl
  · exact (Keeps.refl _ _).alloc _
  · simp
end Go.Proofs.YteekompojgbkhaaGreat
