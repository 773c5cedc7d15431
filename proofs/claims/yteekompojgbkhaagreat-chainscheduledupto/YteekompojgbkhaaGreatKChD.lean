import Derived.Test.YteekompojgbkhaaGreatKChC
import Derived.Laws.EntriesVeiled
namespace Go.Proofs.YteekompojgbkhaaGreat
set_option linter.unusedSimpArgs false
open Go.ChangeShapes Go.WideShapes Go.ChangeAt Go.RowKit Go.MuLone Go.RwLone
set_option linter.unusedVariables false
set_option maxRecDepth 100000
set_option maxHeartbeats 3200000
/-- What is to be done next: a method of the machine in block b. -/
abbrev nxV (f b : Nat) : Value := .func (.func f) #[.pointer (some ⟨b, 0, none⟩)] #[]
theorem heapSetC {w : World} {b : Nat} {c : Array Value} {t : TypeId} (h : w.heap[b]? = some (.cells c t)) (j : Nat) (v : Value) : (w.setCell ⟨b, j, none⟩ v).heap[b]? = some (.cells (c.setIfInBounds j v) t) := by
  simp [World.setCell, Array.getElem?_modify, h]
theorem job_done (w : World) (b : Nat) (e : Int) (c : Array Value) (t : TypeId) (u0 u1 : Value) (h : w.heap[b]? = some (.cells c t)) (h0 : c[0]? = some u0) (h1 : c[1]? = some u1) : Calls Tryz.prog 87 #[.pointer (some ⟨b, 0, none⟩), .int .i64 e] w fun r w' => r = .returned (.bool true) ∧ w'.heap[b]? = some (.cells ((c.setIfInBounds 1 (.int .i64 e)).setIfInBounds 0 (nxV 134 b)) t) ∧ Keeps (fun g => g = b) w w' := by
  have c0 : w.cell? ⟨b, 0, none⟩ = some u0 := (cell?_heap h 0).trans h0
  have c1 : w.cell? ⟨b, 1, none⟩ = some u1 := (cell?_heap h 1).trans h1
  have f0 := frozen?_heap h 0
  have f1 := frozen?_heap h 1
  have HN : Hid (((w.setCell ⟨b, 1, none⟩ (.int .i64 e)).setCell ⟨b, 0, none⟩ (nxV 134 b)).heap[b]? = some (.cells ((c.setIfInBounds 1 (.int .i64 e)).setIfInBounds 0 (nxV 134 b)) t) ∧ Keeps (fun g => g = b) w ((w.setCell ⟨b, 1, none⟩ (.int .i64 e)).setCell ⟨b, 0, none⟩ (nxV 134 b))) := ⟨heapSetC (heapSetC h 1 _) 0 _, (Keeps.setCell (B := fun g => g = b) (Keeps.setCell (B := fun g => g = b) (Keeps.refl _ _) rfl _) rfl _)⟩
  clear h h0 h1
  go_enter Tryz.func87, Tryz.ntmps87
  go_wp2
  go_ret
  exact ⟨rfl, HN.out⟩
theorem job_goOn (w : World) (b : Nat) (v : Value) (c : Array Value) (t : TypeId) (u0 : Value) (h : w.heap[b]? = some (.cells c t)) (h0 : c[0]? = some u0) (hv : ∃ f g, v = nxV f g) : Calls Tryz.prog 89 #[.pointer (some ⟨b, 0, none⟩), v] w fun r w' => r = .returned (.bool false) ∧ w'.heap[b]? = some (.cells (c.setIfInBounds 0 v) t) ∧ Keeps (fun g => g = b) w w' := by
  obtain ⟨f, g, rfl⟩ := hv
  have c0 : w.cell? ⟨b, 0, none⟩ = some u0 := (cell?_heap h 0).trans h0
  have f0 := frozen?_heap h 0
  have HN : Hid ((w.setCell ⟨b, 0, none⟩ (nxV f g)).heap[b]? = some (.cells (c.setIfInBounds 0 (nxV f g)) t) ∧ Keeps (fun g => g = b) w (w.setCell ⟨b, 0, none⟩ (nxV f g))) := ⟨heapSetC h 0 _, Keeps.setCell (B := fun g => g = b) (Keeps.refl _ _) rfl _⟩
  clear h h0
  go_enter Tryz.func89, Tryz.ntmps89
  go_wp2
  go_ret
  exact ⟨rfl, HN.out⟩
/-- An Insert, plain; st: the number in the list at which it goes on, less one; 4: done. -/
structure MI where
  st : Nat
  code : Int
  bu : Int
  sl : Int
  hd : Int
  tr : Int
def insF : Nat → Nat
  | 0 => 48
  | 1 => 90
  | 2 => 136
  | 3 => 181
  | _ => 134
abbrev insA (mb xb f : Nat) (co bu sl hd tr : Int) : Array Value := #[nxV f mb, .int .i64 co, .pointer (some ⟨xb, 0, none⟩), .int .i64 bu, .int .i64 sl, .int .u64 hd, .int .i64 tr]
def InsH (w : World) (mb xb : Nat) (m : MI) : Prop := w.heap[mb]? = some (.cells (insA mb xb (insF m.st) m.code m.bu m.sl m.hd m.tr) 106)
/-- What a step of an Insert does. -/
structure CS where
  S : AS
  x : XS
def insP (S : AS) (x : XS) (m : MI) : Bool × CS × MI := match m.st with
  | 0 => if inB x m.bu then (if liv S m.sl then (if S.word (atC S m.sl x.cell) = 0 then (false, ⟨acc1 S, x⟩, { m with st := 1 }) else (true, ⟨acc1 S, x⟩, { m with st := 4, code := 41 })) else (true, ⟨mis1 S, x⟩, { m with st := 4, code := 22 })) else (true, ⟨S, x⟩, { m with st := 4, code := 40 })
  | 1 => (false, ⟨S, x.cn1⟩, { m with st := 2, hd := x.hd m.bu.toNat })
  | 2 => if liv S m.sl then (false, ⟨put1 S (atC S m.sl x.cell) m.hd, x⟩, { m with st := 3 }) else (true, ⟨mis1 S, x⟩, { m with st := 4, code := 22 })
  | 3 => if x.hd m.bu.toNat = m.hd then (true, ⟨S, { x.cn1 with hd := upd x.hd m.bu.toNat (2 * m.sl) }⟩, { m with st := 4, code := 0 }) else (false, ⟨S, x.cn1⟩, { m with st := 1, tr := wrap64 (m.tr + 1) })
  | _ => (true, ⟨S, x⟩, m)
/-- What is known of an Insert that has begun. -/
def insOk (x : XS) (m : MI) : Prop := (1 ≤ m.st → m.st ≤ 3 → inB x m.bu = true ∧ 1 ≤ m.sl ∧ m.sl ≤ 4096)
/-- A step of a machine in block mb. -/
def StpI (w : World) (L : Lay) (Q : List Nat) (X : XL) (mb : Nat) (p : Bool × CS × MI) (e : Ending) (w' : World) : Prop := e = .returned (.bool p.1) ∧ CH w' L Q p.2.1.S X p.2.1.x ∧ InsH w' mb X.x p.2.2 ∧ Keeps (fun g => chF L X g ∨ g = mb) w w'
theorem ins_rest (w : World) (b : Nat) : Calls Tryz.prog 134 #[.pointer (some ⟨b, 0, none⟩)] w fun e w' => e = .returned (.bool true) ∧ w' = w := by
  go_enter Tryz.func134, Tryz.ntmps134
  go_wp2
  go_ret
  exact ⟨rfl, rfl⟩
/-- The machine's block and the others. -/
structure MB (w : World) (L : Lay) (Q : List Nat) (S : AS) (X : XL) (x : XS) (mb : Nat) (c : Array Value) (t : TypeId) : Prop where
  h : CH w L Q S X x
  m : w.heap[mb]? = some (.cells c t)
  n : ¬ chF L X mb
section
variable {w w' : World} {L : Lay} {Q : List Nat} {S S' : AS} {X : XL} {x x' : XS} {mb : Nat} {c c' : Array Value} {t : TypeId}
theorem MB.cell (h : MB w L Q S X x mb c t) (j : Nat) : w.cell? ⟨mb, j, none⟩ = c[j]? := cell?_heap h.m j
theorem MB.fz (h : MB w L Q S X x mb c t) (j : Nat) : w.frozen? ⟨mb, j, none⟩ = false := frozen?_heap h.m j
theorem MB.drew (h : MB w L Q S X x mb c t) : MB w.drew L Q S X x mb c t := ⟨h.h.drew, h.m, h.n⟩
/-- A call that touches arena and index alone. -/
theorem MB.call (h : MB w L Q S X x mb c t) (hc : CH w' L Q S' X x') (k : Keeps (chF L X) w w') : MB w' L Q S' X x' mb c t := ⟨hc, (k.block mb (Array.getElem?_eq_some_iff.1 h.m).1 h.n).trans h.m, h.n⟩
theorem MB.callX (h : MB w L Q S X x mb c t) (hx : IxH w' L.b X x') (k : Keeps X.has w w') (hc : x'.cell = x.cell) : MB w' L Q S X x' mb c t := h.call (h.h.ix hx k hc) (k.mono (fun _ e => .inr e))
/-- A call that touches the machine alone. -/
theorem MB.own (h : MB w L Q S X x mb c t) (hm : w'.heap[mb]? = some (.cells c' t)) (k : Keeps (fun g => g = mb) w w') : MB w' L Q S X x mb c' t := ⟨h.h.keeps k (fun g hg e => h.n (by rw [← e]; exact hg)), hm, h.n⟩
theorem MB.set (h : MB w L Q S X x mb c t) (j : Nat) (v : Value) : MB (w.setCell ⟨mb, j, none⟩ v) L Q S X x mb (c.setIfInBounds j v) t ∧ Keeps (fun g => g = mb) w (w.setCell ⟨mb, j, none⟩ v) := by
  have k : Keeps (fun g => g = mb) w (w.setCell ⟨mb, j, none⟩ v) := Keeps.setCell (B := fun g => g = mb) (Keeps.refl _ _) rfl _
  exact ⟨h.own (heapSetC h.m j v) k, k⟩
end
abbrev mkF (L : Lay) (X : XL) (mb g : Nat) : Prop := chF L X g ∨ g = mb
theorem kF {w w' : World} {L : Lay} {X : XL} {mb : Nat} (k : Keeps (chF L X) w w') : Keeps (mkF L X mb) w w' := k.mono (fun _ e => .inl e)
theorem kX {w w' : World} {L : Lay} {X : XL} {mb : Nat} (k : Keeps X.has w w') : Keeps (mkF L X mb) w w' := k.mono (fun _ e => .inl (.inr e))
theorem kM {w w' : World} {L : Lay} {X : XL} {mb : Nat} (k : Keeps (fun g => g = mb) w w') : Keeps (mkF L X mb) w w' := k.mono (fun _ e => .inr e)
theorem ins_loadHead (w : World) (L : Lay) (Q : List Nat) (S : AS) (X : XL) (x : XS) (mb : Nat) (m : MI) (h : CH w L Q S X x) (hm : InsH w mb X.x m) (hn : ¬ chF L X mb) (hs : m.st = 1) (hb : inB x m.bu = true) : Calls Tryz.prog 90 #[.pointer (some ⟨mb, 0, none⟩)] w (StpI w L Q X mb (insP S x m)) := by
  obtain ⟨st, co, bu, sl, hd, tr⟩ := m
  obtain rfl : st = 1 := hs
  obtain ⟨b, hb1, hbb⟩ := inB_yes hb
  obtain rfl : bu = (b : Int) := hbb
  have H0 : MB w L Q S X x mb (insA mb X.x 90 co (b : Int) sl hd tr) 106 := ⟨h, hm, hn⟩
  have e1 : insP S x ⟨1, co, (b : Int), sl, hd, tr⟩ = (false, ⟨S, x.cn1⟩, ⟨2, co, (b : Int), sl, x.hd b, tr⟩) := rfl
  rw [e1]
  have HD : Hid (MB w.drew L Q S X x mb (insA mb X.x 90 co (b : Int) sl hd tr) 106) := H0.drew
  have sx : w.drew.cell? ⟨mb, 2, none⟩ = some (.pointer (some ⟨X.x, 0, none⟩)) ∧ w.drew.cell? ⟨mb, 3, none⟩ = some (.int .i64 (b : Int)) := ⟨(HD.out.cell 2).trans rfl, (HD.out.cell 3).trans rfl⟩
  clear h hm hn hb H0 e1
  go_enter Tryz.func90, Tryz.ntmps90
  go_wp2_with fail
  (refine wp_region_held_drew (S := (fun Z => Z.cell? ⟨mb, 2, none⟩ = some (.pointer (some ⟨X.x, 0, none⟩)) ∧ Z.cell? ⟨mb, 3, none⟩ = some (.int .i64 (b : Int)))) (by kernel_rfl) sx (fun hHeld => ?_); simp only [List.size_toArray, List.length_cons, List.length_nil, Nat.reduceAdd, Array.replicate_succ, Array.replicate_zero, List.push_toArray, List.append_toArray, List.nil_append, List.cons_append])
  clear sx
  refine rgT 0 (h := ?_)
  refine rgT 1 (h := ?_)
  refine rgT 2 (h := ?_)
  refine rgT 3 (h := ?_)
  refine rgT 4 (h := ?_)
  refine rgT 5 (h := ?_)
  refine rgT 6 (h := ?_)
  refine rgT 7 (h := ?_)
  refine rgT 8 (h := ?_)
  (refine rgS 9 (h := fun K hK => ?_); go_simp)
  refine (ix_loadHead w.drew L.b X x b hb1 HD.out.h.i).mono ?_
  rintro e w1 ⟨rfl, hx, k1⟩
  obtain ⟨v, hv⟩ : ∃ v, x.hd b = v := ⟨_, rfl⟩
  have HV : Hid (x.hd b = v) := hv
  rw [hv]
  have H1 : Hid (MB w1 L Q S X x.cn1 mb (insA mb X.x 90 co (b : Int) sl hd tr) 106 ∧ Keeps (mkF L X mb) w w1) := ⟨HD.out.callX hx k1 rfl, (Keeps.refl _ _).drew.trans (kX k1)⟩
  clear hx k1 HD hv
  (refine hK.out _ _ ⟨(H1.out.1.cell 2).trans rfl, (H1.out.1.cell 3).trans rfl⟩ (fun hHeld => ?_); clear hK K; try simp only [Act.put, List.setIfInBounds_toArray, List.set_cons_zero, List.set_cons_succ])
  refine rgT 10 (h := ?_)
  refine rgT 11 (h := ?_)
  have c5 : w1.cell? ⟨mb, 5, none⟩ = some (.int .u64 hd) := (H1.out.1.cell 5).trans rfl
  have f5 := H1.out.1.fz 5
  have H2 : Hid (MB (w1.setCell ⟨mb, 5, none⟩ (.int .u64 v)) L Q S X x.cn1 mb (insA mb X.x 90 co (b : Int) sl v tr) 106 ∧ Keeps (mkF L X mb) w (w1.setCell ⟨mb, 5, none⟩ (.int .u64 v))) := ⟨(H1.out.1.set 5 _).1, H1.out.2.trans (kM (H1.out.1.set 5 _).2)⟩
  (refine rgS 12 (h := fun K hK => ?_); go_simp)
  clear c5 f5 H1
  (refine hK.out _ _ ⟨(H2.out.1.cell 2).trans rfl, (H2.out.1.cell 3).trans rfl⟩ (fun hHeld => ?_); clear hK K; try simp only [Act.put, List.setIfInBounds_toArray, List.set_cons_zero, List.set_cons_succ])
  refine wpAnyH_done (by kernel_rfl) ?_ _
  clear hHeld
  clear hHeld
  clear hHeld
  generalize w1.setCell ⟨mb, 5, none⟩ (.int .u64 v) = w2 at *
  go_wp2_with fail
  refine (job_goOn w2 mb (nxV 136 mb) _ _ _ H2.out.1.m rfl ⟨_, _, rfl⟩).mono ?_
  rintro e w3 ⟨rfl, hm3, k3⟩
  have H3 : Hid (CH w3 L Q S X x.cn1 ∧ InsH w3 mb X.x ⟨2, co, (b : Int), sl, v, tr⟩ ∧ Keeps (mkF L X mb) w w3) := ⟨(H2.out.1.own hm3 k3).h, hm3, H2.out.2.trans (kM k3)⟩
  clear hm3 k3 H2
  go_wp2
  go_ret
  exact ⟨rfl, by rw [HV.out]; exact H3.out⟩
end Go.Proofs.YteekompojgbkhaaGreat
