import Derived.Test.YteekompojgbkhaaGreatKChE
import Derived.Test.YteekompojgbkhaaGreatKBqA
import Derived.Test.YteekompojgbkhaaGreatKChI
import Derived.Test.YteekompojgbkhaaGreatKRcA
namespace Go.Proofs.YteekompojgbkhaaGreat
open Go.ChangeShapes Go.WideShapes Go.ChangeAt Go.RowKit Go.MuLone Go.RwLone
set_option linter.unusedVariables false
set_option maxRecDepth 100000
set_option maxHeartbeats 3200000
theorem ins_any (w : World) (L : Lay) (Q : List Nat) (S : AS) (X : XL) (x : XS) (mb : Nat) (m : MI) (h : CH w L Q S X x) (hm : InsH w mb X.x m) (hn : ¬ chF L X mb) (ho : insOk x m) : Calls Tryz.prog (insF m.st) #[.pointer (some ⟨mb, 0, none⟩)] w (StpI w L Q X mb (insP S x m)) := by
  obtain ⟨st, co, bu, sl, hd, tr⟩ := m
  match st with
  | 0 =>
    cases hb : inB x bu
    · exact ins_begin_out w L Q S X x mb ⟨0, co, bu, sl, hd, tr⟩ h hm hn rfl hb
    · cases hl : liv S sl
      · exact ins_begin_dead w L Q S X x mb ⟨0, co, bu, sl, hd, tr⟩ h hm hn rfl hb hl
      · by_cases hw : S.word (atC S sl x.cell) = 0
        · exact ins_begin_go w L Q S X x mb ⟨0, co, bu, sl, hd, tr⟩ h hm hn rfl hb hl hw
        · exact ins_begin_full w L Q S X x mb ⟨0, co, bu, sl, hd, tr⟩ h hm hn rfl hb hl hw
  | 1 => exact ins_loadHead w L Q S X x mb ⟨1, co, bu, sl, hd, tr⟩ h hm hn rfl (ho (by show 1 ≤ 1; omega) (by show 1 ≤ 3; omega)).1
  | 2 =>
    cases hl : liv S sl
    · exact ins_store_dead w L Q S X x mb ⟨2, co, bu, sl, hd, tr⟩ h hm hn rfl hl
    · exact ins_store_go w L Q S X x mb ⟨2, co, bu, sl, hd, tr⟩ h hm hn rfl hl
  | 3 =>
    obtain ⟨o1, o2, o3⟩ := ho (by show 1 ≤ 3; omega) (by show 3 ≤ 3; omega)
    by_cases hu : x.hd bu.toNat = hd
    · exact ins_swap_hit w L Q S X x mb ⟨3, co, bu, sl, hd, tr⟩ h hm hn rfl o1 o2 o3 hu
    · exact ins_swap_miss w L Q S X x mb ⟨3, co, bu, sl, hd, tr⟩ h hm hn rfl o1 o2 o3 hu
  | n + 4 =>
    refine (ins_rest w mb).mono ?_
    rintro e w' ⟨rfl, rfl⟩
    exact ⟨rfl, h, hm, Keeps.refl _ _⟩
theorem ins_call0 (w : World) (mb : Nat) (r : Bool) (R : World → Prop) (c0 : w.cell? ⟨mb, 0, none⟩ = some (.func (.func 48) #[.pointer (some ⟨mb, 0, none⟩)] #[])) (HC : Calls Tryz.prog 48 #[.pointer (some ⟨mb, 0, none⟩)] w fun e w' => e = .returned (.bool r) ∧ R w') : Calls Tryz.prog 73 #[.pointer (some ⟨mb, 0, none⟩)] w fun e w' => e = .returned (.bool r) ∧ R w' := by
  have HCC : Hid (∀ _ : Unit, _) := fun _ => HC
  clear HC
  go_enter Tryz.func73, Tryz.ntmps73
  go_wp2_with fail
  refine (HCC.out ()).mono ?_
  rintro e w1 ⟨rfl, hr⟩
  have HR : Hid (R w1) := hr
  clear hr HCC c0
  go_wp2
  go_ret
  exact ⟨rfl, HR.out⟩
theorem ins_call1 (w : World) (mb : Nat) (r : Bool) (R : World → Prop) (c0 : w.cell? ⟨mb, 0, none⟩ = some (.func (.func 90) #[.pointer (some ⟨mb, 0, none⟩)] #[])) (HC : Calls Tryz.prog 90 #[.pointer (some ⟨mb, 0, none⟩)] w fun e w' => e = .returned (.bool r) ∧ R w') : Calls Tryz.prog 73 #[.pointer (some ⟨mb, 0, none⟩)] w fun e w' => e = .returned (.bool r) ∧ R w' := by
  have HCC : Hid (∀ _ : Unit, _) := fun _ => HC
  clear HC
  go_enter Tryz.func73, Tryz.ntmps73
  go_wp2_with fail
  refine (HCC.out ()).mono ?_
  rintro e w1 ⟨rfl, hr⟩
  have HR : Hid (R w1) := hr
  clear hr HCC c0
  go_wp2
  go_ret
  exact ⟨rfl, HR.out⟩
theorem ins_call2 (w : World) (mb : Nat) (r : Bool) (R : World → Prop) (c0 : w.cell? ⟨mb, 0, none⟩ = some (.func (.func 136) #[.pointer (some ⟨mb, 0, none⟩)] #[])) (HC : Calls Tryz.prog 136 #[.pointer (some ⟨mb, 0, none⟩)] w fun e w' => e = .returned (.bool r) ∧ R w') : Calls Tryz.prog 73 #[.pointer (some ⟨mb, 0, none⟩)] w fun e w' => e = .returned (.bool r) ∧ R w' := by
  have HCC : Hid (∀ _ : Unit, _) := fun _ => HC
  clear HC
  go_enter Tryz.func73, Tryz.ntmps73
  go_wp2_with fail
  refine (HCC.out ()).mono ?_
  rintro e w1 ⟨rfl, hr⟩
  have HR : Hid (R w1) := hr
  clear hr HCC c0
  go_wp2
  go_ret
  exact ⟨rfl, HR.out⟩
theorem ins_call3 (w : World) (mb : Nat) (r : Bool) (R : World → Prop) (c0 : w.cell? ⟨mb, 0, none⟩ = some (.func (.func 181) #[.pointer (some ⟨mb, 0, none⟩)] #[])) (HC : Calls Tryz.prog 181 #[.pointer (some ⟨mb, 0, none⟩)] w fun e w' => e = .returned (.bool r) ∧ R w') : Calls Tryz.prog 73 #[.pointer (some ⟨mb, 0, none⟩)] w fun e w' => e = .returned (.bool r) ∧ R w' := by
  have HCC : Hid (∀ _ : Unit, _) := fun _ => HC
  clear HC
  go_enter Tryz.func73, Tryz.ntmps73
  go_wp2_with fail
  refine (HCC.out ()).mono ?_
  rintro e w1 ⟨rfl, hr⟩
  have HR : Hid (R w1) := hr
  clear hr HCC c0
  go_wp2
  go_ret
  exact ⟨rfl, HR.out⟩
theorem ins_call4 (w : World) (mb : Nat) (r : Bool) (R : World → Prop) (c0 : w.cell? ⟨mb, 0, none⟩ = some (.func (.func 134) #[.pointer (some ⟨mb, 0, none⟩)] #[])) (HC : Calls Tryz.prog 134 #[.pointer (some ⟨mb, 0, none⟩)] w fun e w' => e = .returned (.bool r) ∧ R w') : Calls Tryz.prog 73 #[.pointer (some ⟨mb, 0, none⟩)] w fun e w' => e = .returned (.bool r) ∧ R w' := by
  have HCC : Hid (∀ _ : Unit, _) := fun _ => HC
  clear HC
  go_enter Tryz.func73, Tryz.ntmps73
  go_wp2_with fail
  refine (HCC.out ()).mono ?_
  rintro e w1 ⟨rfl, hr⟩
  have HR : Hid (R w1) := hr
  clear hr HCC c0
  go_wp2
  go_ret
  exact ⟨rfl, HR.out⟩
theorem ins_step (w : World) (L : Lay) (Q : List Nat) (S : AS) (X : XL) (x : XS) (mb : Nat) (m : MI) (h : CH w L Q S X x) (hm : InsH w mb X.x m) (hn : ¬ chF L X mb) (ho : insOk x m) : Calls Tryz.prog 73 #[.pointer (some ⟨mb, 0, none⟩)] w (StpI w L Q X mb (insP S x m)) := by
  obtain ⟨st, co, bu, sl, hd, tr⟩ := m
  match st with
  | 0 => exact ins_call0 w mb _ _ ((cell?_heap hm 0).trans rfl) (ins_any w L Q S X x mb _ h hm hn ho)
  | 1 => exact ins_call1 w mb _ _ ((cell?_heap hm 0).trans rfl) (ins_any w L Q S X x mb _ h hm hn ho)
  | 2 => exact ins_call2 w mb _ _ ((cell?_heap hm 0).trans rfl) (ins_any w L Q S X x mb _ h hm hn ho)
  | 3 => exact ins_call3 w mb _ _ ((cell?_heap hm 0).trans rfl) (ins_any w L Q S X x mb _ h hm hn ho)
  | n + 4 => exact ins_call4 w mb _ _ ((cell?_heap hm 0).trans rfl) (ins_any w L Q S X x mb _ h hm hn ho)
theorem ins_new (w : World) (xb : Nat) (bu sl : Int) : Calls Tryz.prog 25 #[.pointer (some ⟨xb, 0, none⟩), .int .i64 bu, .int .i64 sl] w fun e w' => e = .returned (.pointer (some ⟨w.heap.size, 0, none⟩)) ∧ InsH w' w.heap.size xb ⟨0, 0, bu, sl, 0, 0⟩ ∧ Keeps (fun _ => False) w w' ∧ w'.heap.size = w.heap.size + 1 := by
  go_enter Tryz.func25, Tryz.ntmps25
  go_wp2
  go_ret
  refine ⟨rfl, ?_, ?_, ?_⟩
  · exact heap_alloc_last _ _ _ rfl
  · exact (Keeps.refl _ _).alloc _
  · simp
end Go.Proofs.YteekompojgbkhaaGreat

namespace Go.Proofs.YteekompojgbkhaaGreat
open Go.ChangeShapes Go.WideShapes Go.ChangeAt Go.RowKit Go.MuLone Go.RwLone
set_option linter.unusedVariables false
/-- A machine of both sides, plain: its kind (1 an Insert, 2 a Walk, 4 a Remove), its index, its blocks. -/
structure PM where
  kd : Nat
  ix : Nat
  pb : Nat
  rb : Nat
  i : MI
  k : MW
  r : MR
/-- Where both sides lie. -/
structure WL where
  L : Lay
  X : Nat → XL
  R : RL
  cap : Nat
  Y : Nat → XL
  hc : Nat → Nat
/-- What both sides hold. -/
structure WS where
  S : AS
  Q : List Nat
  x : Nat → XS
  ms : List PM
def PM.H (w : World) (l : WL) (m : PM) : Prop := (m.kd = 1 ∧ InsH w m.pb (l.X m.ix).x m.i ∧ RinH w m.rb (l.Y m.ix).x m.i) ∨ (m.kd = 2 ∧ WlkH w m.pb (l.X m.ix).x m.k ∧ RwlH w m.rb (l.Y m.ix).x m.k) ∨ (m.kd = 4 ∧ RemH w m.pb (l.X m.ix).x m.r ∧ RrmH w m.rb (l.Y m.ix).x m.r)
def PM.ok (x : XS) (m : PM) : Prop := (m.kd = 1 → insOk x m.i ∧ (m.i.st = 2 → LkOk m.i.hd)) ∧ (m.kd = 2 → wlkOk m.k) ∧ (m.kd = 4 → remOk x m.r)
theorem lt_heap {w : World} {b : Nat} {c : Array Value} {t : TypeId} (h : w.heap[b]? = some (.cells c t)) : b < w.heap.size := (Array.getElem?_eq_some_iff.1 h).1
theorem InsH.lt {w : World} {mb xb : Nat} {m : MI} (h : InsH w mb xb m) : mb < w.heap.size := lt_heap h
theorem WlkH.lt {w : World} {mb xb : Nat} {m : MW} (h : WlkH w mb xb m) : mb < w.heap.size := lt_heap h
theorem RemH.lt {w : World} {mb xb : Nat} {m : MR} (h : RemH w mb xb m) : mb < w.heap.size := lt_heap h
theorem RinH.lt {w : World} {mb xb : Nat} {m : MI} (h : RinH w mb xb m) : mb < w.heap.size := by obtain ⟨_, _, h, _⟩ := h; exact lt_heap h
theorem RwlH.lt {w : World} {mb xb : Nat} {m : MW} (h : RwlH w mb xb m) : mb < w.heap.size := by obtain ⟨_, _, _, _, _, h, _⟩ := h; exact lt_heap h
theorem RrmH.lt {w : World} {mb xb : Nat} {m : MR} (h : RrmH w mb xb m) : mb < w.heap.size := by obtain ⟨_, _, _, _, _, h, _⟩ := h; exact lt_heap h
theorem InsH.keeps {w w' : World} {D : Nat → Prop} {mb xb : Nat} {m : MI} (h : InsH w mb xb m) (k : Keeps D w w') (hn : ¬ D mb) : InsH w' mb xb m := (k.block mb h.lt hn).trans h
theorem WlkH.keeps {w w' : World} {D : Nat → Prop} {mb xb : Nat} {m : MW} (h : WlkH w mb xb m) (k : Keeps D w w') (hn : ¬ D mb) : WlkH w' mb xb m := (k.block mb h.lt hn).trans h
theorem RemH.keeps {w w' : World} {D : Nat → Prop} {mb xb : Nat} {m : MR} (h : RemH w mb xb m) (k : Keeps D w w') (hn : ¬ D mb) : RemH w' mb xb m := (k.block mb h.lt hn).trans h
theorem RinH.keeps {w w' : World} {D : Nat → Prop} {mb xb : Nat} {m : MI} (h : RinH w mb xb m) (k : Keeps D w w') (hn : ¬ D mb) : RinH w' mb xb m := by
  obtain ⟨a, b, h1, h2⟩ := h
  exact ⟨a, b, (k.block mb (lt_heap h1) hn).trans h1, h2⟩
theorem RwlH.keeps {w w' : World} {D : Nat → Prop} {mb xb : Nat} {m : MW} (h : RwlH w mb xb m) (k : Keeps D w w') (hn : ¬ D mb) : RwlH w' mb xb m := by
  obtain ⟨a, b, c, d, f, h1, h2⟩ := h
  exact ⟨a, b, c, d, f, (k.block mb (lt_heap h1) hn).trans h1, h2⟩
theorem RrmH.keeps {w w' : World} {D : Nat → Prop} {mb xb : Nat} {m : MR} (h : RrmH w mb xb m) (k : Keeps D w w') (hn : ¬ D mb) : RrmH w' mb xb m := by
  obtain ⟨a, b, c, d, f, h1, h2⟩ := h
  exact ⟨a, b, c, d, f, (k.block mb (lt_heap h1) hn).trans h1, h2⟩
theorem PM.H.lt {w : World} {l : WL} {m : PM} (h : m.H w l) : m.pb < w.heap.size ∧ m.rb < w.heap.size := by
  rcases h with ⟨_, h1, h2⟩ | ⟨_, h1, h2⟩ | ⟨_, h1, h2⟩ <;> exact ⟨h1.lt, h2.lt⟩
theorem PM.H.keeps {w w' : World} {D : Nat → Prop} {l : WL} {m : PM} (h : m.H w l) (k : Keeps D w w') (h1 : ¬ D m.pb) (h2 : ¬ D m.rb) : m.H w' l := by
  rcases h with ⟨e, g1, g2⟩ | ⟨e, g1, g2⟩ | ⟨e, g1, g2⟩
  · exact .inl ⟨e, g1.keeps k h1, g2.keeps k h2⟩
  · exact .inr (.inl ⟨e, g1.keeps k h1, g2.keeps k h2⟩)
  · exact .inr (.inr ⟨e, g1.keeps k h1, g2.keeps k h2⟩)
theorem PM.H.same {w : World} {l l' : WL} {m : PM} (h : m.H w l) (e1 : l'.X = l.X) (e2 : l'.Y = l.Y) : m.H w l' := by
  unfold PM.H at h ⊢
  rw [e1, e2]
  exact h
theorem inB_nb {x x' : XS} (h : x'.nb = x.nb) (b : Int) : inB x' b = inB x b := by unfold inB; rw [h]
theorem PM.ok.nb {x x' : XS} {m : PM} (h : m.ok x) (e : x'.nb = x.nb) : m.ok x' := by
  refine ⟨fun e1 => ⟨fun a b => ?_, (h.1 e1).2⟩, h.2.1, fun e1 => ⟨fun a b => ?_, (h.2.2 e1).2⟩⟩
  · rw [inB_nb e]
    exact (h.1 e1).1 a b
  · rw [inB_nb e]
    exact (h.2.2 e1).1 a b
/-- The blocks of each side, and of the machines. -/
def pF (l : WL) (g : Nat) : Prop := l.L.has g ∨ ∃ i, i < 2 ∧ (l.X i).has g
def dF (l : WL) (qv : Value) (S : AS) (g : Nat) : Prop := raF l.R qv S g ∨ ∃ i, i < 2 ∧ (l.Y i).has g
def mF (ms : List PM) (g : Nat) : Prop := ∃ m ∈ ms, g = m.pb ∨ g = m.rb
def aF (l : WL) (qv : Value) (s : WS) (g : Nat) : Prop := pF l g ∨ dF l qv s.S g ∨ mF s.ms g
/-- Two machines have no block in common. -/
def PM.dj (m m' : PM) : Prop := m.pb ≠ m'.pb ∧ m.pb ≠ m'.rb ∧ m.rb ≠ m'.pb ∧ m.rb ≠ m'.rb
/-- Both sides, in memory. -/
structure Bo (w : World) (l : WL) (qv : Value) (s : WS) : Prop where
  a : Arn w l.L s.Q s.S
  i : ∀ i, i < 2 → IxH w l.L.b (l.X i) (s.x i)
  r : RAr w l.R l.cap qv s.Q s.S
  j : ∀ i, i < 2 → RxH w l.R.b (l.Y i) (l.hc i) (s.x i)
  m : ∀ m ∈ s.ms, m.H w l ∧ m.ix < 2 ∧ m.ok (s.x m.ix) ∧ m.pb ≠ m.rb ∧ ¬ pF l m.pb ∧ ¬ pF l m.rb ∧ ¬ dF l qv s.S m.pb ∧ ¬ dF l qv s.S m.rb
  mm : s.ms.Pairwise PM.dj
  da : ∀ i, i < 2 → ∀ g, (l.X i).has g → ¬ l.L.has g
  dx : ∀ g, (l.X 0).has g → ¬ (l.X 1).has g
  dr : ∀ i, i < 2 → ∀ g, (l.Y i).has g → ¬ raF l.R qv s.S g
  dy : ∀ g, (l.Y 0).has g → ¬ (l.Y 1).has g
  pd : ∀ g, pF l g → ¬ dF l qv s.S g
  c : ∀ i, i < 2 → (s.x i).cell < s.S.wd
  wd : ∀ i, i < 2 → WdOk s.S (s.x i)
theorem Bo.n {w : World} {l : WL} {qv : Value} {s : WS} (h : Bo w l qv s) : s.S.n ≤ 4096 := h.r.hn.2
theorem Bo.ch {w : World} {l : WL} {qv : Value} {s : WS} (h : Bo w l qv s) (i : Nat) (hi : i < 2) : CH w l.L s.Q s.S (l.X i) (s.x i) := ⟨h.a, h.i i hi, h.da i hi, h.c i hi⟩
theorem Bo.rc {w : World} {l : WL} {qv : Value} {s : WS} (h : Bo w l qv s) (i : Nat) (hi : i < 2) : RC w l.R l.cap qv s.Q s.S (l.Y i) (l.hc i) (s.x i) := ⟨h.r, h.j i hi, h.dr i hi, h.c i hi⟩
theorem Bo.dxx {w : World} {l : WL} {qv : Value} {s : WS} (h : Bo w l qv s) (i j : Nat) (hi : i < 2) (hj : j < 2) (e : j ≠ i) (g : Nat) (h1 : (l.X j).has g) : ¬ (l.X i).has g := by
  rcases (show (i = 0 ∧ j = 1) ∨ (i = 1 ∧ j = 0) by omega) with ⟨rfl, rfl⟩ | ⟨rfl, rfl⟩
  · exact fun h2 => h.dx g h2 h1
  · exact fun h2 => h.dx g h1 h2
theorem Bo.dyy {w : World} {l : WL} {qv : Value} {s : WS} (h : Bo w l qv s) (i j : Nat) (hi : i < 2) (hj : j < 2) (e : j ≠ i) (g : Nat) (h1 : (l.Y j).has g) : ¬ (l.Y i).has g := by
  rcases (show (i = 0 ∧ j = 1) ∨ (i = 1 ∧ j = 0) by omega) with ⟨rfl, rfl⟩ | ⟨rfl, rfl⟩
  · exact fun h2 => h.dy g h2 h1
  · exact fun h2 => h.dy g h1 h2
theorem Bo.lt {w : World} {l : WL} {qv : Value} {s : WS} (h : Bo w l qv s) (g : Nat) (hg : aF l qv s g) : g < w.heap.size := by
  rcases hg with (hg | ⟨i, hi, hg⟩) | (hg | ⟨i, hi, hg⟩) | ⟨m, hm, rfl | rfl⟩
  · exact h.a.h.lt g hg
  · rcases hg with rfl | rfl
    · exact (h.i i hi).lx
    · exact (h.i i hi).lh
  · exact h.r.lt g hg
  · rcases hg with rfl | rfl
    · exact (h.j i hi).lx
    · exact (h.j i hi).lh
  · exact (h.m m hm).1.lt.1
  · exact (h.m m hm).1.lt.2
/-- What touches none of its blocks leaves it. -/
theorem Bo.keeps {w w' : World} {D : Nat → Prop} {l : WL} {qv : Value} {s : WS} (h : Bo w l qv s) (k : Keeps D w w') (hD : ∀ g, aF l qv s g → ¬ D g) : Bo w' l qv s :=
  ⟨h.a.keeps k (fun g hg => hD g (.inl (.inl hg))), fun i hi => (h.i i hi).keeps k (fun g hg => hD g (.inl (.inr ⟨i, hi, hg⟩))), h.r.keeps k (fun g hg => hD g (.inr (.inl (.inl hg)))), fun i hi => (h.j i hi).keeps k (fun g hg => hD g (.inr (.inl (.inr ⟨i, hi, hg⟩)))), fun m hm => ⟨(h.m m hm).1.keeps k (hD _ (.inr (.inr ⟨m, hm, .inl rfl⟩))) (hD _ (.inr (.inr ⟨m, hm, .inr rfl⟩))), (h.m m hm).2⟩, h.mm, h.da, h.dx, h.dr, h.dy, h.pd, h.c, h.wd⟩
theorem raF_same {R : RL} {qv : Value} {S S' : AS} (e1 : S'.n = S.n) (e2 : S'.use = S.use) (g : Nat) : raF R qv S' g ↔ raF R qv S g := by
  unfold raF RL.ws
  rw [e1, e2]
theorem dF_same {l : WL} {qv : Value} {S S' : AS} (e1 : S'.n = S.n) (e2 : S'.use = S.use) (g : Nat) : dF l qv S' g ↔ dF l qv S g := by
  unfold dF
  rw [raF_same e1 e2]
/-- The program's arena was looked at. -/
theorem Bo.arn {w w' : World} {l : WL} {qv : Value} {s : WS} (h : Bo w l qv s) (ha : Arn w' l.L s.Q s.S) (k : Keeps l.L.has w w') : Bo w' l qv s :=
  ⟨ha, fun i hi => (h.i i hi).keeps k (h.da i hi), h.r.keeps k (fun g hg e => h.pd g (.inl e) (.inl hg)), fun i hi => (h.j i hi).keeps k (fun g hg e => h.pd g (.inl e) (.inr ⟨i, hi, hg⟩)), fun m hm => ⟨(h.m m hm).1.keeps k (fun e => (h.m m hm).2.2.2.2.1 (.inl e)) (fun e => (h.m m hm).2.2.2.2.2.1 (.inl e)), (h.m m hm).2⟩, h.mm, h.da, h.dx, h.dr, h.dy, h.pd, h.c, h.wd⟩
def WS.step (s : WS) (c : CS) (i k : Nat) (m' : PM) : WS := ⟨c.S, s.Q, upd s.x i c.x, s.ms.set k m'⟩
/-- A machine's step, on both sides. -/
theorem Bo.step {w w2 : World} {l : WL} {qv : Value} {s : WS} (h : Bo w l qv s) (k : Nat) (m m' : PM) (hk : s.ms[k]? = some m) (c : CS)
    (e : m'.ix = m.ix ∧ m'.pb = m.pb ∧ m'.rb = m.rb) (ha : Arn w2 l.L s.Q c.S) (hx : IxH w2 l.L.b (l.X m.ix) c.x) (hr : RAr w2 l.R l.cap qv s.Q c.S) (hy : RxH w2 l.R.b (l.Y m.ix) (l.hc m.ix) c.x) (hm : m'.H w2 l)
    (kp : Keeps (fun g => mkF l.L (l.X m.ix) m.pb g ∨ mrF l.R qv s.S (l.Y m.ix) m.rb g) w w2) (hs : Same s.S (s.x m.ix) c) (hw : WdOk c.S c.x) (hok : m'.ok c.x) : Bo w2 l qv (s.step c m.ix k m') := by
  obtain ⟨hk1, hk2⟩ := List.getElem?_eq_some_iff.1 hk
  have hmem : m ∈ s.ms := List.mem_of_getElem? hk
  obtain ⟨m1, mi, m3, m4, m5, m6, m7, m8⟩ := h.m m hmem
  obtain ⟨s1, s2, s3, s4, s5⟩ := hs
  obtain ⟨e1, e2, e3⟩ := e
  -- what is in one of the touched sets
  have hP : ∀ g, mkF l.L (l.X m.ix) m.pb g → pF l g ∨ g = m.pb := fun g hg => by
    rcases hg with (hg | hg) | hg
    · exact .inl (.inl hg)
    · exact .inl (.inr ⟨_, mi, hg⟩)
    · exact .inr hg
  have hR : ∀ g, mrF l.R qv s.S (l.Y m.ix) m.rb g → dF l qv s.S g ∨ g = m.rb := fun g hg => by
    rcases hg with (hg | hg) | hg
    · exact .inl (.inl hg)
    · exact .inl (.inr ⟨_, mi, hg⟩)
    · exact .inr hg
  have oX : ∀ j, j < 2 → j ≠ m.ix → IxH w2 l.L.b (l.X j) (s.x j) := fun j hj hne => (h.i j hj).keeps kp (fun g hg hd => by
    rcases hd with ((hd | hd) | hd) | hd
    · exact h.da j hj g hg hd
    · exact h.dxx m.ix j mi hj hne g hg hd
    · exact m5 (.inr ⟨j, hj, by rw [← hd]; exact hg⟩)
    · rcases hR g hd with hd | hd
      · exact h.pd g (.inr ⟨j, hj, hg⟩) hd
      · exact m6 (.inr ⟨j, hj, by rw [← hd]; exact hg⟩))
  have oY : ∀ j, j < 2 → j ≠ m.ix → RxH w2 l.R.b (l.Y j) (l.hc j) (s.x j) := fun j hj hne => (h.j j hj).keeps kp (fun g hg hd => by
    rcases hd with hd | ((hd | hd) | hd)
    · rcases hP g hd with hd | hd
      · exact h.pd g hd (.inr ⟨j, hj, hg⟩)
      · exact m7 (.inr ⟨j, hj, by rw [← hd]; exact hg⟩)
    · exact h.dr j hj g hg hd
    · exact h.dyy m.ix j mi hj hne g hg hd
    · exact m8 (.inr ⟨j, hj, by rw [← hd]; exact hg⟩))
  have dFs := fun g => (dF_same (l := l) (qv := qv) s1 s3 g)
  have raFs := fun g => (raF_same (R := l.R) (qv := qv) s1 s3 g)
  have nbx : ∀ j, (upd s.x m.ix c.x j).nb = (s.x j).nb := fun j => by
    by_cases e : j = m.ix
    · subst e; rw [upd_same]; exact s5
    · rw [upd_other _ _ e]
  have dj := List.pairwise_iff_getElem.1 h.mm
  have djk : ∀ m2 ∈ s.ms, m2 ≠ m → True := fun _ _ _ => trivial
  refine ⟨ha, fun j hj => ?_, hr, fun j hj => ?_, fun m2 hm2 => ?_, ?_, h.da, h.dx, fun j hj g hg => fun e => h.dr j hj g hg ((raFs g).1 e), h.dy, fun g hg => fun e => h.pd g hg ((dFs g).1 e), fun j hj => ?_, fun j hj => ?_⟩
  · show IxH w2 l.L.b (l.X j) (upd s.x m.ix c.x j)
    by_cases e : j = m.ix
    · subst e; rw [upd_same]; exact hx
    · rw [upd_other _ _ e]; exact oX j hj e
  · show RxH w2 l.R.b (l.Y j) (l.hc j) (upd s.x m.ix c.x j)
    by_cases e : j = m.ix
    · subst e; rw [upd_same]; exact hy
    · rw [upd_other _ _ e]; exact oY j hj e
  · obtain ⟨t, ht, rfl⟩ := List.getElem_of_mem (show m2 ∈ s.ms.set k m' from hm2)
    rw [List.length_set] at ht
    rw [List.getElem_set]
    by_cases et : k = t
    · rw [if_pos et]
      refine ⟨hm, by rw [e1]; exact mi, ?_, by rw [e2, e3]; exact m4, by rw [e2]; exact m5, by rw [e3]; exact m6, fun e => m7 (by rw [e2] at e; exact (dFs _).1 e), fun e => m8 (by rw [e3] at e; exact (dFs _).1 e)⟩
      show m'.ok (upd s.x m.ix c.x m'.ix)
      rw [e1, upd_same]
      exact hok
    · rw [if_neg et]
      obtain ⟨n1, n2, n3, n4, n5, n6, n7, n8⟩ := h.m s.ms[t] (List.getElem_mem ht)
      have dd : PM.dj s.ms[t] m := by
        rcases Nat.lt_or_gt_of_ne et with hlt | hlt
        · obtain ⟨d1, d2, d3, d4⟩ := dj k t hk1 ht hlt
          rw [hk2] at d1 d2 d3 d4
          exact ⟨d1.symm, d3.symm, d2.symm, d4.symm⟩
        · have d := dj t k ht hk1 hlt
          rw [hk2] at d
          exact d
      refine ⟨n1.keeps kp (fun e => ?_) (fun e => ?_), n2, n3.nb (nbx _), n4, n5, n6, fun e => n7 ((dFs _).1 e), fun e => n8 ((dFs _).1 e)⟩
      · rcases e with e | e
        · rcases hP _ e with e | e
          · exact n5 e
          · exact dd.1 e
        · rcases hR _ e with e | e
          · exact n7 e
          · exact dd.2.1 e
      · rcases e with e | e
        · rcases hP _ e with e | e
          · exact n6 e
          · exact dd.2.2.1 e
        · rcases hR _ e with e | e
          · exact n8 e
          · exact dd.2.2.2 e
  · show (s.ms.set k m').Pairwise PM.dj
    rw [List.pairwise_iff_getElem]
    intro a b hA hB hab
    rw [List.length_set] at hA hB
    rw [List.getElem_set, List.getElem_set]
    have d := dj a b hA hB hab
    by_cases ea : k = a
    · rw [if_pos ea, if_neg (show ¬ k = b by omega)]
      subst ea
      rw [hk2] at d
      unfold PM.dj at d ⊢
      rw [e2, e3]
      exact d
    · rw [if_neg ea]
      by_cases eb : k = b
      · rw [if_pos eb]
        subst eb
        rw [hk2] at d
        unfold PM.dj at d ⊢
        rw [e2, e3]
        exact d
      · rw [if_neg eb]
        exact d
  · show (upd s.x m.ix c.x j).cell < c.S.wd
    rw [s2]
    by_cases e : j = m.ix
    · subst e; rw [upd_same, s4]; exact h.c _ hj
    · rw [upd_other _ _ e]; exact h.c j hj
  · show WdOk c.S (upd s.x m.ix c.x j)
    by_cases e : j = m.ix
    · subst e; rw [upd_same]; exact hw
    · rw [upd_other _ _ e]; exact ⟨hw.1, (h.wd j hj).2⟩
/-- A step leaves no new block. -/
theorem step_aF {l : WL} {qv : Value} {s : WS} {c : CS} {i k : Nat} {m m' : PM} (hk : s.ms[k]? = some m) (e : m'.pb = m.pb ∧ m'.rb = m.rb) (h1 : c.S.n = s.S.n) (h2 : c.S.use = s.S.use) (g : Nat) (hg : aF l qv (s.step c i k m') g) : aF l qv s g := by
  rcases hg with hg | hg | ⟨m2, hm2, hg⟩
  · exact .inl hg
  · exact .inr (.inl ((dF_same h1 h2 g).1 hg))
  · rcases List.mem_or_eq_of_mem_set (show m2 ∈ s.ms.set k m' from hm2) with hm | rfl
    · exact .inr (.inr ⟨m2, hm, hg⟩)
    · rw [e.1, e.2] at hg
      exact .inr (.inr ⟨m, List.mem_of_getElem? hk, hg⟩)
end Go.Proofs.YteekompojgbkhaaGreat
