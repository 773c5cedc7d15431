import Derived.Test.YteekompojgbkhaaGreatKReE
import Derived.Test.YteekompojgbkhaaGreatKBmR
import Derived.Test.YteekompojgbkhaaGreatKRowE
import Derived.Test.YteekompojgbkhaaGreatRows
import Derived.Deep.Slices
import Derived.SizedLaws
import Derived.ChangeOld
import Derived.OpenShut
namespace Go.Proofs.YteekompojgbkhaaGreat
open Go.ChangeShapes Go.WideShapes Go.ChangeAt Go.RowKit Go.MuLone Go.RwLone
set_option linter.unusedVariables false
set_option maxRecDepth 100000
set_option maxHeartbeats 3200000
/-- N Inserts in memory, each in its block, over arena and index. -/
structure InW (L : Lay) (Q : List Nat) (X : XL) (pt : Nat → Nat) (N : Nat) (w : World) (s : IS) : Prop where
  c : CH w L Q s.S X s.x
  wd : WdOk s.S s.x
  n : s.S.n ≤ 4096
  m : ∀ m, m < N → InsH w (pt m) X.x (s.mi m) ∧ insOk s.x (s.mi m) ∧ ((s.mi m).st = 2 → LkOk (s.mi m).hd)
theorem InW.keeps {L : Lay} {Q : List Nat} {X : XL} {pt : Nat → Nat} {N : Nat} {w w' : World} {s : IS} {D : Nat → Prop} (h : InW L Q X pt N w s) (k : Keeps D w w') (hD : ∀ g, D g → ¬ (chF L X g ∨ ∃ m, m < N ∧ g = pt m)) : InW L Q X pt N w' s :=
  ⟨h.c.keeps k (fun g hg e => hD g e (.inl hg)), h.wd, h.n, fun m hm => ⟨(h.m m hm).1.keeps k (fun e => hD _ e (.inr ⟨m, hm, rfl⟩)), (h.m m hm).2⟩⟩
theorem InW.step {L : Lay} {Q : List Nat} {X : XL} {pt : Nat → Nat} {N : Nat} {w : World} {s : IS} (h : InW L Q X pt N w s) (h1 : ∀ m, m < N → ¬ chF L X (pt m)) (h2 : ∀ m m', m < N → m' < N → m ≠ m' → pt m ≠ pt m') (m : Nat) (hm : m < N) : Calls Tryz.prog 73 #[.pointer (some ⟨pt m, 0, none⟩)] w fun e w' => e = .returned (.bool ((s.st m).dn m)) ∧ InW L Q X pt N w' (s.st m) ∧ Keeps (fun g => chF L X g ∨ ∃ m, m < N ∧ g = pt m) w w' := by
  obtain ⟨a1, a2, a3⟩ := h.m m hm
  refine (ins_step w L Q s.S X s.x (pt m) (s.mi m) h.c a1 (h1 m hm) a2).mono ?_
  rintro e w' ⟨rfl, b1, b2, b3⟩
  obtain ⟨k1, k2, k3, k4⟩ := ins_keep s.S s.x (s.mi m) h.wd h.n a2 a3
  have ed : (s.st m).dn m = (insP s.S s.x (s.mi m)).1 := if_pos rfl
  refine ⟨by rw [ed], ⟨b1, k1, ?_, fun j hj => ?_⟩, b3.mono (fun g hg => hg.imp id (fun e => ⟨m, hm, e⟩))⟩
  · show (insP s.S s.x (s.mi m)).2.1.S.n ≤ 4096
    rw [k4.1]
    exact h.n
  · by_cases e : j = m
    · subst e
      rw [show (s.st j).mi j = (insP s.S s.x (s.mi j)).2.2 from if_pos rfl]
      exact ⟨b2, k2, k3⟩
    · rw [show (s.st m).mi j = s.mi j from if_neg e]
      obtain ⟨c1, c2, c3⟩ := h.m j hj
      exact ⟨c1.keeps b3 (fun e2 => e2.elim (fun e2 => h1 j hj e2) (fun e2 => h2 j m hj hm e e2)), c2.nb k4.2.2.2.2, c3⟩
/-- The Inserts as machines of a harness. -/
def mcI (L : Lay) (Q : List Nat) (X : XL) (pt : Nat → Nat) (N : Nat) (h1 : ∀ m, m < N → ¬ chF L X (pt m)) (h2 : ∀ m m', m < N → m' < N → m ≠ m' → pt m ≠ pt m') : Mc where
  σ := IS
  ok := InW L Q X pt N
  F := fun g => chF L X g ∨ ∃ m, m < N ∧ g = pt m
  pt := pt
  N := N
  st := IS.st
  dn := fun s m => s.dn m
  far := fun h k hD => h.keeps k hD
  lt := fun {w s x} h hx => by
    rcases hx with hx | ⟨m, hm, rfl⟩
    · exact h.c.lt _ hx
    · exact (h.m m hm).1.lt
  call := fun w s m hm h => h.step h1 h2 m hm
section
variable {L : Lay} {Q : List Nat} {X : XL} {pt : Nat → Nat} {N T kq : Nat} {h1 : ∀ m, m < N → ¬ chF L X (pt m)} {h2 : ∀ m m', m < N → m' < N → m ≠ m' → pt m ≠ pt m'}
theorem stepP_I (a : Hp × IS) (i : Nat) (y : Pq) (t : List Pq) (e : a.1.q[i]? = some (y :: t)) : (stepP (mcI L Q X pt N h1 h2) a i).1 = stI a.1 a.2 i y t := by
  unfold stepP
  rw [e]
  by_cases hd : (a.2.st y.1).dn y.1 = true
  · have e1 : stepQ (mcI L Q X pt N h1 h2) a.1 a.2 i y t = ((⟨a.1.q.set i t, wrap64 (a.1.st + 1), callE a.1 i y ++ [(2, (i : Int), y.2.1, wrap64 (a.1.st + 1))], a.1.en ++ [y.1]⟩, a.2.st y.1, true) : Hp × IS × Bool) := if_pos hd
    have e2 : stI a.1 a.2 i y t = (⟨a.1.q.set i t, wrap64 (a.1.st + 1), callE a.1 i y ++ [(2, (i : Int), y.2.1, wrap64 (a.1.st + 1))], a.1.en ++ [y.1]⟩, a.2.st y.1) := if_pos hd
    exact (congrArg (fun r : Hp × IS × Bool => (r.1, r.2.1)) e1).trans e2.symm
  · have e1 : stepQ (mcI L Q X pt N h1 h2) a.1 a.2 i y t = ((⟨a.1.q.set i ((y.1, y.2.1, true) :: t), wrap64 (a.1.st + 1), callE a.1 i y, a.1.en⟩, a.2.st y.1, false) : Hp × IS × Bool) := if_neg hd
    have e2 : stI a.1 a.2 i y t = (⟨a.1.q.set i ((y.1, y.2.1, true) :: t), wrap64 (a.1.st + 1), callE a.1 i y, a.1.en⟩, a.2.st y.1) := if_neg hd
    exact (congrArg (fun r : Hp × IS × Bool => (r.1, r.2.1)) e1).trans e2.symm
/-- The invariant of a play, and of what is left of it. -/
def SP (b : Bool) (N kq : Nat) (nb : Int) (bk : Int → Int) : Nat → Hp × IS → Prop := fun left a => ∃ G rows, SJ N N kq nb bk a.1 a.2 G rows ∧ (b = true → Phi N N bk G a.2 ≤ left)
theorem sp_inv (b : Bool) {nb : Int} {bk : Int → Int} (n1 : 1 ≤ N) (hN : N ≤ 4096) (hb : ∀ s, 0 ≤ bk s ∧ bk s < nb) (hbk : ∀ s, bk s = 0) : StepInv (mcI L Q X pt N h1 h2) (SP b N kq nb bk) := by
  rintro l a i y t ⟨G, rows, j, hl⟩ e
  have e2 := stepP_I (L := L) (Q := Q) (X := X) (pt := pt) (N := N) (h1 := h1) (h2 := h2) a i y t e
  obtain ⟨G', rows', j', hl'⟩ := j.step n1 hN hb hbk e
  show SP b N kq nb bk l (stepP (mcI L Q X pt N h1 h2) a i).1
  rw [e2]
  exact ⟨G', rows', j', fun hb => by have := hl hb; omega⟩
end
end Go.Proofs.YteekompojgbkhaaGreat

namespace Go.Proofs.YteekompojgbkhaaGreat
open Go.ChangeShapes Go.WideShapes Go.ChangeAt Go.RowKit Go.MuLone Go.RwLone
set_option linter.unusedVariables false
set_option maxRecDepth 100000
set_option maxHeartbeats 3200000
/-- A harness does not see the blocks of machines that it does not hold. -/
theorem OwP.cong {pt pt' : Nat → Nat} {w : World} {v : Value} {l : List Pq} (h : OwP pt w v l) (k : ∀ x, x ∈ l → pt' x.1 = pt x.1) : OwP pt' w v l := by
  have e : ∀ l : List Pq, (∀ x, x ∈ l → pt' x.1 = pt x.1) → l.flatMap (plM pt') = l.flatMap (plM pt) := by
    intro l
    induction l with
    | nil => intro _; rfl
    | cons a l ih =>
      intro h
      rw [List.flatMap_cons, List.flatMap_cons, ih (fun x hx => h x (List.mem_cons_of_mem _ hx))]
      unfold plM
      rw [h a List.mem_cons_self]
  show w.ownsRow 0 _ 3 v l.length (l.flatMap (plM pt'))
  rw [e l k]
  exact h
theorem Hm.cong {w : World} {F : Nat → Prop} {pt pt' : Nat → Nat} {hb qb : Nat} {qv : Nat → Value} {ev en : Value} {h : Hp} (m : Hm w F pt hb qb qv ev en h) (hq : ∀ (i : Nat) (l : List Pq), h.q[i]? = some l → ∀ x, x ∈ l → pt' x.1 = pt x.1) (he : h.en = []) : Hm w F pt' hb qb qv ev en h :=
  ⟨m.hc, m.qt, m.qc, fun i hi => (m.ql i hi).cong (hq i _ (List.getElem?_eq_getElem hi)), m.qa, m.oe, by have := m.ot; rw [he] at this ⊢; exact this, m.fh, m.fq, m.fr, m.fe, m.fn, m.lt, m.n16⟩
/-- The m-th Insert as it is begun. -/
def miH (m : Nat) : MI := ⟨0, 0, 0, (m : Int) + 1, 0, 0⟩
def is0 (S : AS) (x : XS) : IS := ⟨S, x, miH, fun _ => false⟩
/-- Where the law's things lie. -/
structure ShL where
  L : Lay
  Q : List Nat
  X : XL
  bb : Nat
  hb : Nat
  qb : Nat
  C : Array Value
/-- T Inserts were handed in. -/
structure SbI (z : ShL) (B N kq T : Nat) (S : AS) (x : XS) (pt : Nat → Nat) (F : Nat → Prop) (qv : Nat → Value) (h : Hp) (G : Gb) (w0 W : World) : Prop where
  m : Hm W F pt z.hb z.qb qv (.slice none 0 0) (.slice none 0 0) h
  c : CH W z.L z.Q S z.X x
  b : W.heap[z.bb]? = some (.cells z.C 35)
  i : ∀ m, m < T → InsH W (pt m) z.X.x (miH m) ∧ ¬ chF z.L z.X (pt m) ∧ ¬ F (pt m) ∧ pt m ≠ z.bb ∧ B ≤ pt m
  d : ∀ m m', m < T → m' < T → m ≠ m' → pt m ≠ pt m'
  f : ∀ y, F y → ¬ chF z.L z.X y ∧ y ≠ z.bb ∧ B ≤ y
  fb : ¬ chF z.L z.X z.bb
  cb : ∀ y, chF z.L z.X y → B ≤ y
  l : Below B w0 W
  j : SJ N T kq (1 : Nat) (bkO 1) h (is0 S x) G (fun _ => [])
  g : ∀ t, (T : Int) < t → G.ins t = 0
  q : ∀ (i : Nat) (l : List Pq), h.q[i]? = some l → l.length ≤ T
  ev : h.ev = []
  en : h.en = []
theorem SJ.sub {N T kq : Nat} {nb : Int} {bk : Int → Int} {h h' : Hp} {s : IS} {G : Gb} {rows : Int → List Int} (j : SJ N T kq nb bk h s G rows) (hbk : ∀ s, bk s = 0) (hT : T < N) (hg : G.ins ((T : Int) + 1) = 0) (hm : s.mi T = miH T) (hd : s.dn T = false) {i : Nat} {l : List Pq} (hq : h.q[i]? = some l) (hi : (T + 1) % kq = i) (hh : h'.q = h.q.set i (l ++ [(T, (T : Int) + 1, false)])) (he : h'.ev = h.ev) : SJ N (T + 1) kq nb bk h' s (G.beg ((T : Int) + 1)) rows := by
  have e : ons s (T + 1) = ons s T ++ [onS s T] := by
    unfold ons
    rw [List.range_succ, List.map_append]
    rfl
  refine ⟨?_, j.z, by rw [he]; exact j.e, j.q.sub hq hi hh hd⟩
  rw [e]
  refine j.i.beg0 (onS s T) (by show (1 : Int) ≤ (T : Int) + 1; omega) (by show (T : Int) + 1 ≤ (N : Int); omega) hg rfl hd ?_ ?_ ?_
  · show (s.mi T).st = 0
    rw [hm]
    rfl
  · show (s.mi T).sl = _
    rw [hm]
    rfl
  · show (s.mi T).bu = bk ((T : Int) + 1)
    rw [hm, hbk]
    rfl
section
variable {z : ShL} {B N kq T : Nat} {S : AS} {x : XS} {pt : Nat → Nat} {F : Nat → Prop} {qv : Nat → Value} {h : Hp} {G : Gb} {w0 W : World}
theorem SbI.hB (a : SbI z B N kq T S x pt F qv h G w0 W) (hB : B ≤ w0.heap.size) : B ≤ W.heap.size := Nat.le_trans hB a.l.size
theorem SbI.lb (a : SbI z B N kq T S x pt F qv h G w0 W) : z.bb < W.heap.size := (Array.getElem?_eq_some_iff.1 a.b).1
theorem SbI.still {W' : World} (a : SbI z B N kq T S x pt F qv h G w0 W) (hB : B ≤ w0.heap.size) (k : Keeps (fun _ => False) W W') : SbI z B N kq T S x pt F qv h G w0 W' :=
  ⟨a.m.still k, a.c.keeps k (fun _ _ e => e), (k.block _ a.lb (fun e => e)).trans a.b, fun m hm => ⟨(a.i m hm).1.keeps k (fun e => e), (a.i m hm).2⟩, a.d, a.f, a.fb, a.cb, a.l.trans (k.below (a.hB hB) (fun _ _ e => e)), a.j, a.g, a.q, a.ev, a.en⟩
/-- An Insert was begun and is handed in. -/
theorem SbI.sub {W1 W2 : World} {F' : Nat → Prop} {qv' : Nat → Value} {h' : Hp} {i : Nat} {l : List Pq} {mb : Nat} (a : SbI z B N kq T S x pt F qv h G w0 W) (hB : B ≤ w0.heap.size) (hT : T < N) (hmb : W.heap.size ≤ mb) (k1 : Keeps (fun _ => False) W W1) (hm : InsH W1 mb z.X.x (miH T)) (m2 : Hm W2 F' (fun m => if m = T then mb else pt m) z.hb z.qb qv' (.slice none 0 0) (.slice none 0 0) h') (f2 : ∀ y, F' y → F y ∨ W1.heap.size ≤ y) (k2 : Keeps F W1 W2) (hq : h.q[i]? = some l) (hi : (T + 1) % kq = i) (hh : h' = { h with q := h.q.set i (l ++ [(T, (T : Int) + 1, false)]) }) :
    SbI z B N kq (T + 1) S x (fun m => if m = T then mb else pt m) F' qv' h' (G.beg ((T : Int) + 1)) w0 W2 := by
  have hs := k1.size
  have lm : mb < W1.heap.size := hm.lt
  have nF : ∀ y, y < W.heap.size → ¬ F y → ¬ F' y := fun y hy hn e => (f2 y e).elim hn (fun e => by omega)
  have nb : ¬ F z.bb := fun e => (a.f _ e).2.1 rfl
  have nm : ¬ F mb := fun e => by have := a.m.lt _ e; omega
  have hlt : ∀ m, m < T → pt m < W.heap.size := fun m hm => (a.i m hm).1.lt
  have B0 := a.hB hB
  have B1 : B ≤ W1.heap.size := by omega
  refine ⟨m2, (a.c.keeps k1 (fun _ _ e => e)).keeps k2 (fun g hg e => (a.f g e).1 hg), ?_, fun m hm' => ?_, fun m m' h1 h2 hne => ?_, fun y hy => ?_, a.fb, a.cb, ?_, ?_, fun t ht => ?_, fun i' l' hl' => ?_, by rw [hh]; exact a.ev, by rw [hh]; exact a.en⟩
  · exact (k2.block _ (Nat.lt_of_lt_of_le a.lb hs) nb).trans ((k1.block _ a.lb (fun e => e)).trans a.b)
  · show InsH W2 (if m = T then mb else pt m) _ _ ∧ ¬ chF z.L z.X (if m = T then mb else pt m) ∧ ¬ F' (if m = T then mb else pt m) ∧ (if m = T then mb else pt m) ≠ z.bb ∧ B ≤ (if m = T then mb else pt m)
    by_cases e : m = T
    · subst e
      rw [if_pos rfl]
      refine ⟨hm.keeps k2 nm, fun e => by have := a.c.lt _ e; omega, fun e => (f2 _ e).elim nm (fun e => by omega), fun e => by have := a.lb; omega, by omega⟩
    · rw [if_neg e]
      have := a.i m (by omega)
      exact ⟨(this.1.keeps k1 (fun e => e)).keeps k2 this.2.2.1, this.2.1, nF _ (hlt m (by omega)) this.2.2.1, this.2.2.2⟩
  · show (if m = T then mb else pt m) ≠ (if m' = T then mb else pt m')
    by_cases e : m = T
    · rw [if_pos e, if_neg (by omega)]
      have := hlt m' (by omega)
      omega
    · rw [if_neg e]
      by_cases e' : m' = T
      · rw [if_pos e']
        have := hlt m (by omega)
        omega
      · rw [if_neg e']
        exact a.d m m' (by omega) (by omega) hne
  · rcases f2 y hy with e | e
    · exact a.f y e
    · exact ⟨fun e2 => by have := a.c.lt _ e2; omega, fun e2 => by have := a.lb; omega, by omega⟩
  · exact (a.l.trans (k1.below B0 (fun _ _ e => e))).trans (k2.below B1 (fun g hg e => by have := (a.f g e).2.2; omega))
  · exact a.j.sub (fun s => Int.emod_one s) hT (a.g _ (by omega)) rfl rfl hq hi (by rw [hh]) (by rw [hh])
  · show updI G.ins ((T : Int) + 1) 1 t = 0
    rw [updI_ne _ _ (by omega)]
    exact a.g t (by omega)
  · rw [hh] at hl'
    have hlt := (List.getElem?_eq_some_iff.1 hq).1
    by_cases e : i' = i
    · subst e
      have hl' : (h.q.set i' (l ++ [(T, (T : Int) + 1, false)]))[i']? = some l' := hl'
      rw [List.getElem?_set_self hlt] at hl'
      injection hl' with hl'
      rw [← hl', List.length_append]
      have := a.q i' l hq
      simp only [List.length_cons, List.length_nil]
      omega
    · have hl' : (h.q.set i (l ++ [(T, (T : Int) + 1, false)]))[i']? = some l' := hl'
      rw [List.getElem?_set_ne (fun e2 => e e2.symm)] at hl'
      have := a.q i' l' hl'
      omega
/-- What Submit answers. -/
theorem sub_one {h : Hp} {kq i T : Nat} {l : List Pq} (hk : h.q.length = kq) (hq : h.q[i]? = some l) (hl : l.length ≤ 60) (hT : T ≤ 100) : subP h (i : Int) ((T : Int) + 1) [T] = (0, { h with q := h.q.set i (l ++ [(T, (T : Int) + 1, false)]) }) := by
  have hi := (List.getElem?_eq_some_iff.1 hq).1
  have e : plS ((T : Int) + 1) [T] 1 = [(T, (T : Int) + 1, false)] := by
    show [(T, IntKind.i64.wrap ((T : Int) + 1 + ((0 : Nat) : Int)), false)] = _
    rw [show IntKind.i64.wrap ((T : Int) + 1 + ((0 : Nat) : Int)) = (T : Int) + 1 from by rw [IntKind.wrap_i64]; omega]
  unfold subP
  rw [if_pos ⟨by omega, by omega⟩, Int.toNat_natCast, hq]
  show (if 64 < l.length + 1 then _ else _) = _
  rw [if_neg (by omega)]
  show ((0 : Int), { h with q := h.q.set i (l ++ plS ((T : Int) + 1) [T] 1) }) = _
  rw [e]
/-- Where all are handed in: machines, and the invariant of the plays. -/
theorem SbI.mc (a : SbI z B N kq N S x pt F qv h G w0 W) (hw : WdOk S x) (hn : S.n ≤ 4096) : InW z.L z.Q z.X pt N W (is0 S x) ∧ (∀ m, m < N → ¬ chF z.L z.X (pt m)) ∧ (∀ m m', m < N → m' < N → m ≠ m' → pt m ≠ pt m') ∧ (∀ y, F y → ¬ (chF z.L z.X y ∨ ∃ m, m < N ∧ y = pt m)) := by
  refine ⟨⟨a.c, hw, hn, fun m hm => ⟨(a.i m hm).1, fun e => ?_, fun e => ?_⟩⟩, fun m hm => (a.i m hm).2.1, a.d, fun y hy e => ?_⟩
  · have e : 1 ≤ 0 := e
    omega
  · have e : 0 = 2 := e
    omega
  · rcases e with e | ⟨m, hm, e⟩
    · exact (a.f y hy).1 e
    · rw [e] at hy
      exact (a.i m hm).2.2.1 hy
theorem SbI.iv (a : SbI z B N kq N S x pt F qv h G w0 W) (hN : N ≤ 24) : Iv N h := by
  have hl : h.q.length ≤ 16 := a.m.n16
  have hk : ∀ (q : List (List Pq)), (∀ l, l ∈ q → l.length ≤ 24) → wtq q ≤ 48 * q.length ∧ szq q ≤ 24 * q.length := by
    intro q
    induction q with
    | nil => intro _; exact ⟨Nat.le_refl _, Nat.le_refl _⟩
    | cons l q ih =>
      intro hq
      have h1 := ih (fun l hl => hq l (List.mem_cons_of_mem _ hl))
      have h2 := hq l List.mem_cons_self
      have h3 : wtl l ≤ 2 * l.length := by
        clear ih hq h1 h2
        induction l with
        | nil => exact Nat.le_refl _
        | cons y l ih =>
          rw [wtl_cons, List.length_cons]
          have : wtp y ≤ 2 := by unfold wtp; split <;> omega
          omega
      have e1 : wtq (l :: q) = wtl l + wtq q := by simp [wtq]
      have e2 : szq (l :: q) = l.length + szq q := by simp [szq]
      rw [e1, e2, List.length_cons]
      omega
  have hk := hk h.q (fun l hl => by
    obtain ⟨i, hi⟩ := List.mem_iff_getElem?.1 hl
    have := a.q i l hi
    omega)
  refine ⟨fun i l hi => ⟨by have := a.q i l hi; omega, fun y hy => ((a.j.q.q i l hi).2 y hy).1⟩, ?_, ?_⟩
  · rw [a.ev]
    simp only [List.length_nil]
    omega
  · rw [a.en]
    simp only [List.length_nil]
    omega
end
end Go.Proofs.YteekompojgbkhaaGreat

namespace Go.Proofs.YteekompojgbkhaaGreat
open Go.ChangeShapes Go.WideShapes Go.ChangeAt Go.RowKit
set_option linter.unusedVariables false
set_option maxRecDepth 100000
/-- A step of a script. -/
structure O4 where
  k : Int
  f : Int
  a : Int
  b : Int
def opC (o : O4) : List Value := [.int .i64 o.k, .int .i64 o.f, .int .i64 o.a, .int .i64 o.b]
def i64ok (x : Int) : Prop := -9223372036854775808 ≤ x ∧ x ≤ 9223372036854775807
def O4.ok (o : O4) : Prop := i64ok o.k ∧ i64ok o.f ∧ i64ok o.a ∧ i64ok o.b
section
variable {H : Type} {enc : TypeId × Value → H} {W : World}
end
end Go.Proofs.YteekompojgbkhaaGreat

namespace Go.Proofs.YteekompojgbkhaaGreat
open Go.ChangeShapes Go.WideShapes Go.ChangeAt Go.RowKit Go.MuLone Go.RwLone
set_option linter.unusedVariables false
set_option maxRecDepth 100000
set_option maxHeartbeats 6400000
section
variable {H : Type} {enc : TypeId × Value → H} {W : World}
end
theorem PlI.base {w0 W : World} {B bb N nb n : Nat} {l : BkL} (h : PlI w0 B bb l N nb n W) : PlI W B bb l N nb n W := by
  obtain ⟨s, G, h1, h2, h3, h4⟩ := h
  exact ⟨s, G, h1, h2, Below.refl _ _, h4⟩
theorem PlI.below {w0 W : World} {B bb N nb n : Nat} {l : BkL} (h : PlI w0 B bb l N nb n W) : Below B w0 W := by
  obtain ⟨s, G, h1, h2, h3, h4⟩ := h
  exact h3

section
variable {H : Type} {enc : TypeId × Value → H} {W : World}
end
section
variable {H : Type} {enc : TypeId × Value → H} {W : World}
end
end Go.Proofs.YteekompojgbkhaaGreat

namespace Go.Proofs.YteekompojgbkhaaGreat
open Go.ChangeShapes Go.WideShapes Go.ChangeAt Go.RowKit Go.MuLone Go.RwLone
set_option linter.unusedVariables false
set_option maxRecDepth 100000
set_option maxHeartbeats 6400000
/-- What holds between the moves of one machine. -/
def AlQ (w0 : World) (B bb : Nat) (l : BkL) (N n k bd t : Nat) (W : World) : Prop := ∃ s G q, BkM W B bb l s ∧ BkJ s G ∧ Below B w0 W ∧ s.N = N ∧ s.all.length = n ∧ s.all[k]? = some q ∧ (q.o.dn = false → oAl s.x G q.o + t ≤ bd)
theorem AlQ.next {w0 W W' : World} {B bb N n k bd t : Nat} {l : BkL} {s s' : BkS} {G G' : Gb} {q : OL} {o' : On} (h4 : Below B w0 W) (h5 : s.N = N) (h6 : s.all.length = n) (hq : s.all[k]? = some q) (hd : q.o.dn = false) (hb : oAl s.x G q.o + t ≤ bd) (b1 : BkM W' B bb l s') (b2 : Below B W W') (b3 : Mvd s G k q.o s' G' o') : AlQ w0 B bb l N n k bd (t + 1) W' := by
  obtain ⟨j1, j2, j3, j4, j5, j6⟩ := b3
  have hl := (List.getElem?_eq_some_iff.1 hq).1
  have e : (s'.all.map OL.o)[k]? = some o' := by
    rw [j3]
    exact List.getElem?_set_self (by rw [List.length_map]; exact hl)
  rw [List.getElem?_map] at e
  obtain ⟨q', e1, e2⟩ := Option.map_eq_some_iff.1 e
  refine ⟨s', G', q', b1, j1, h4.trans b2, j4.trans h5, j6.trans h6, e1, fun _ => ?_⟩
  have := (j2.2 hd).2.2.2
  rw [e2]
  omega
section
variable {H : Type} {enc : TypeId × Value → H} {W : World}
end
end Go.Proofs.YteekompojgbkhaaGreat
