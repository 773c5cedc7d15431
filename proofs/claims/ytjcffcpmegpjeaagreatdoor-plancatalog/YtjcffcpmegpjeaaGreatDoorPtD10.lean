import Derived.Test.YtjcffcpmegpjeaaGreatDoorPtD7
namespace Go.Proofs.YtjcffcpmegpjeaaGreatDoor
open Go.ChangeShapes Go.WideShapes Go.ChangeAt Go.RowKit
set_option linter.unusedVariables false
set_option maxRecDepth 100000
theorem assert_errnoT : ∀ (c : Int) (w : World), (Instr.typeAssert (.iface 29 (.int .i64 c)) 20 29 true).run Tryz.prog w = .ok (.tuple #[.int .i64 c, .bool true]) w := fun c w => by kernel_rfl
set_option maxHeartbeats 1600000 in
theorem catchT (c : Int) (bE : Nat) (z : Value) (older : List PanicEntry) (w : World) (hE : w.cell? ⟨bE, 0, none⟩ = some z) (fE : w.frozen? ⟨bE, 0, none⟩ = false) :
    CallsD Tryz.prog 91 #[.pointer (some ⟨bE, 0, none⟩)] (.panicking ({ v := .iface 29 (.int .i64 c), recovered := false } :: older)) w fun e u' w' =>
      e = .returned (.tuple #[]) ∧ u' = .panicking ({ v := .iface 29 (.int .i64 c), recovered := true } :: older) ∧ w' = w.setCell ⟨bE, 0, none⟩ (.iface 90 (.agg #[.int .i64 c])) := by
  refine callsD_of_wpS Tryz.func91 rfl fun c₀ cs hu => ?_
  apply wpS_seq
  apply wpS_region
  simp [wpOpsS, go_sem, recoverD, hu, Tryz.ntmps91, Exit.thenS]
  refine wpS_of_wp ?_
  simp only [Array.replicate, List.replicate, List.setIfInBounds_toArray, List.set_cons_zero, List.set_cons_succ, List.append_toArray, List.cons_append, List.nil_append]
  have hta := assert_errnoT
  go_wp2
  change bodyPostS _ _ _ _ _ _ _ _ _
  exact ⟨rfl, _, rfl, _, results_none rfl _ _ _, rfl, rfl, rfl⟩
theorem idleT (pE : Addr) (w : World) :
    CallsD Tryz.prog 91 #[.pointer (some pE)] .returning w fun e u' w' => e = .returned (.tuple #[]) ∧ u' = .returning ∧ w' = w := by
  refine callsD_of_wpS Tryz.func91 rfl fun c₀ cs hu => ?_
  apply wpS_seq
  apply wpS_region
  simp [wpOpsS, go_sem, recoverD, hu, Tryz.ntmps91, Exit.thenS]
  refine wpS_of_wp ?_
  simp only [Array.replicate, List.replicate, List.setIfInBounds_toArray, List.set_cons_zero, List.set_cons_succ, List.append_toArray, List.cons_append, List.nil_append]
  go_wp2
  change bodyPostS _ _ _ _ _ _ _ _ _
  cases c₀
  simp only at hu
  subst hu
  exact ⟨rfl, _, rfl, _, results_none rfl _ _ _, rfl, rfl, rfl⟩
set_option maxHeartbeats 4000000 in
/-- The work that is caught. -/
theorem workT (P : Nat) (k d : ByteArray) (w : World) (hp : w.heap[P]? = some (.cells #[.string k, .string d] 28)) (hk : k.size ≤ 1125899906842624) (hd : d.size ≤ 512) : Calls Tryz.prog 66 #[.pointer (some ⟨P, 0, none⟩)] w (RdT w k d) := by
  have hP : P < w.heap.size := (Array.getElem?_eq_some_iff.1 hp).1
  have HA : Hid (Below w.heap.size w (w.alloc (.cells #[.string ⟨#[]⟩, .int .i64 0, .slice none 0 0, .slice none 0 0] 25))) := (Below.refl _ _).alloc (Nat.le_refl _) _
  have HZ : Hid ((w.alloc (.cells #[.string ⟨#[]⟩, .int .i64 0, .slice none 0 0, .slice none 0 0] 25)).heap[w.heap.size]? = some (.cells #[.string ⟨#[]⟩, .int .i64 0, .slice none 0 0, .slice none 0 0] 25)) := heap_new _ _
  have hsz := szAl w (.cells #[.string ⟨#[]⟩, .int .i64 0, .slice none 0 0, .slice none 0 0] 25)
  have hp1 := (HA.out.block _ hP).trans hp
  have c0 : (w.alloc (.cells #[.string ⟨#[]⟩, .int .i64 0, .slice none 0 0, .slice none 0 0] 25)).cell? ⟨P, 0, none⟩ = some (.string k) := by unfold World.cell?; rw [hp1]; rfl
  have c1 : (w.alloc (.cells #[.string ⟨#[]⟩, .int .i64 0, .slice none 0 0, .slice none 0 0] 25)).cell? ⟨P, 1, none⟩ = some (.string d) := by unfold World.cell?; rw [hp1]; rfl
  have HR : Hid (∀ W, Calls Tryz.prog 67 #[.agg #[.string k, .string d]] W (RdT W k d)) := fun W => readTableT k d W hk hd
  clear hp hp1
  go_enter Tryz.func66, Tryz.ntmps66
  go_wp2_with fail
  refine (HR.out _).mono ?_
  rintro e w3 ⟨hb, h | ⟨nm, num, cv, kv, cs, ks, rfl, hoc, hon, l1, l2, n1, n2, hy⟩⟩
  · obtain ⟨rfl, hno⟩ := h
    exact ⟨rfl, RdT.no (HA.out.trans (hb.mono HA.out.size)) hno⟩
  · obtain ⟨ca, cc, rfl⟩ := hoc.isSlice
    obtain ⟨ka, kc, rfl⟩ := hon.isSlice
    have HB3 : Hid (Below w.heap.size w w3) := HA.out.trans (hb.mono HA.out.size)
    have hz : w3.heap[w.heap.size]? = some (.cells #[.string ⟨#[]⟩, .int .i64 0, .slice none 0 0, .slice none 0 0] 25) := (hb.block _ (by omega)).trans HZ.out
    have z0 : w3.cell? ⟨w.heap.size, 0, none⟩ = some (.string ⟨#[]⟩) := by unfold World.cell?; rw [hz]; rfl
    have z1 : w3.cell? ⟨w.heap.size, 1, none⟩ = some (.int .i64 0) := by unfold World.cell?; rw [hz]; rfl
    have z2 : w3.cell? ⟨w.heap.size, 2, none⟩ = some (.slice none 0 0) := by unfold World.cell?; rw [hz]; rfl
    have z3 : w3.cell? ⟨w.heap.size, 3, none⟩ = some (.slice none 0 0) := by unfold World.cell?; rw [hz]; rfl
    have fz : ∀ j, w3.frozen? ⟨w.heap.size, j, none⟩ = false := fun j => by unfold World.frozen?; rw [hz]; rfl
    have fz0 := fz 0
    have fz1 := fz 1
    have fz2 := fz 2
    have fz3 := fz 3
    have HBZ : Hid (Below w.heap.size w ((((w3.setCell ⟨w.heap.size, 0, none⟩ (.string nm)).setCell ⟨w.heap.size, 1, none⟩ (.int .i64 num)).setCell ⟨w.heap.size, 2, none⟩ (.slice ca cs.length cc)).setCell ⟨w.heap.size, 3, none⟩ (.slice ka ks.length kc))) := (((HB3.out.setCell (by simp only; omega) _).setCell (by simp only; omega) _).setCell (by simp only; omega) _).setCell (by simp only; omega) _
    have HHZ : Hid (((((w3.setCell ⟨w.heap.size, 0, none⟩ (.string nm)).setCell ⟨w.heap.size, 1, none⟩ (.int .i64 num)).setCell ⟨w.heap.size, 2, none⟩ (.slice ca cs.length cc)).setCell ⟨w.heap.size, 3, none⟩ (.slice ka ks.length kc)).heap[w.heap.size]? = some (.cells #[.string nm, .int .i64 num, .slice ca cs.length cc, .slice ka ks.length kc] 25)) := heap_set (heap_set (heap_set (heap_set hz _) _) _) _
    have HOC : Hid (ownC ((((w3.setCell ⟨w.heap.size, 0, none⟩ (.string nm)).setCell ⟨w.heap.size, 1, none⟩ (.int .i64 num)).setCell ⟨w.heap.size, 2, none⟩ (.slice ca cs.length cc)).setCell ⟨w.heap.size, 3, none⟩ (.slice ka ks.length kc)) w.heap.size (.slice ca cs.length cc) cs) := (hoc.keep fun b hb => by
      have hne : w.heap.size ≠ b := by have := (hoc.own b hb).1; omega
      exact (heap_off hne _).trans ((heap_off hne _).trans ((heap_off hne _).trans (heap_off hne _)))).down (by omega)
    have HON : Hid (ownN ((((w3.setCell ⟨w.heap.size, 0, none⟩ (.string nm)).setCell ⟨w.heap.size, 1, none⟩ (.int .i64 num)).setCell ⟨w.heap.size, 2, none⟩ (.slice ca cs.length cc)).setCell ⟨w.heap.size, 3, none⟩ (.slice ka ks.length kc)) w.heap.size (.slice ka ks.length kc) ks) := (hon.keep fun b hb => by
      have hne : w.heap.size ≠ b := by have := (hon.own b hb).1; omega
      exact (heap_off hne _).trans ((heap_off hne _).trans ((heap_off hne _).trans (heap_off hne _)))).down (by omega)
    have HY : Hid (∀ nm' num' cs' ks', Yt nm' num' cs' ks' k d → nm' = nm ∧ num' = num ∧ cs' = cs ∧ ks' = ks) := hy
    clear hy hoc hon hb hz
    go_wp2
    exact bodyPost_ret (results_cell_row (p := 1) (ty := 25) rfl _ _ w.heap.size 25 _ (0, 0) _ rfl HHZ.out Tryz.underlying25 rfl (by kernel_rfl)) rfl ⟨HBZ.out, .inr ⟨nm, num, _, _, cs, ks, rfl, HOC.out, HON.out, l1, l2, n1, n2, HY.out⟩⟩
theorem ret_table2 {fn : Func} {p u : Tmp} (h : fn.results = #[.cell p 25, .cell u 53]) (tmps : Array Value) (w : World) (a b c e f : Value) (g gu : Nat) (hp : tmps.getD p undef = .pointer (some ⟨g, 0, none⟩)) (hu : tmps.getD u undef = .pointer (some ⟨gu, 0, none⟩))
    (hg : w.heap[g]? = some (.cells #[a, b, c, e] 25)) (cu : w.cell? ⟨gu, 0, none⟩ = some f) :
    (results fn tmps).run Tryz.prog w = .ok (.tuple #[.agg #[a, b, c, e], f]) w := by
  have hp' : tmps[p]?.getD undef = .pointer (some ⟨g, 0, none⟩) := by simpa using hp
  have hu' : tmps[u]?.getD undef = .pointer (some ⟨gu, 0, none⟩) := by simpa using hu
  have q0 : w.cell? ⟨g, 0, none⟩ = some a := by unfold World.cell?; rw [hg]; rfl
  have q1 : w.cell? ⟨g, 1, none⟩ = some b := by unfold World.cell?; rw [hg]; rfl
  have q2 : w.cell? ⟨g, 2, none⟩ = some c := by unfold World.cell?; rw [hg]; rfl
  have q3 : w.cell? ⟨g, 3, none⟩ = some e := by unfold World.cell?; rw [hg]; rfl
  simp [results, h, hp', hu', asAddr, go_sem, q0, q1, q2, q3, cu]
/-- What a decoding that is caught comes to. -/
def CgT (w : World) (k d : ByteArray) (e : Ending) (w' : World) : Prop :=
  Below w.heap.size w w' ∧ ((e = .returned (.tuple #[.agg #[.string ⟨#[]⟩, .int .i64 0, .slice none 0 0, .slice none 0 0], .iface 90 (.agg #[.int .i64 169])]) ∧ ∀ nm num cs ks, ¬ Yt nm num cs ks k d) ∨ ∃ (nm : ByteArray) (num : Int) (cv kv : Value) (cs : List CD) (ks : List Int), e = .returned (.tuple #[.agg #[.string nm, .int .i64 num, cv, kv], .nilIface]) ∧ ownC w' w.heap.size cv cs ∧ ownN w' w.heap.size kv ks ∧ cs.length ≤ 512 ∧ ks.length ≤ 512 ∧ -9223372036854775808 ≤ num ∧ num ≤ 9223372036854775807 ∧ ∀ nm' num' cs' ks', Yt nm' num' cs' ks' k d → nm' = nm ∧ num' = num ∧ cs' = cs ∧ ks' = ks)
set_option maxHeartbeats 4000000 in
theorem caughtT (P : Nat) (k d : ByteArray) (w : World) (hp : w.heap[P]? = some (.cells #[.string k, .string d] 28)) (hk : k.size ≤ 1125899906842624) (hd : d.size ≤ 512) : Calls Tryz.prog 65 #[.func (.func 66) #[] #[.pointer (some ⟨P, 0, none⟩)]] w (CgT w k d) := by
  have hmf : ∀ (fn : Fn) (first cap : Array Value) (w : World), (Instr.makeFunc fn first cap).run Tryz.prog w = .ok (.func fn first cap) w := fun _ _ _ _ => rfl
  have hP : P < w.heap.size := (Array.getElem?_eq_some_iff.1 hp).1
  have s1 := szAl w (.cells #[.string ⟨#[]⟩, .int .i64 0, .slice none 0 0, .slice none 0 0] 25)
  have s2 := szAl (w.alloc (.cells #[.string ⟨#[]⟩, .int .i64 0, .slice none 0 0, .slice none 0 0] 25)) (.cells #[.nilIface] 53)
  have HA : Hid (Below w.heap.size w ((w.alloc (.cells #[.string ⟨#[]⟩, .int .i64 0, .slice none 0 0, .slice none 0 0] 25)).alloc (.cells #[.nilIface] 53))) := ((Below.refl _ _).alloc (Nat.le_refl _) _).alloc (by omega) _
  have HZ : Hid (((w.alloc (.cells #[.string ⟨#[]⟩, .int .i64 0, .slice none 0 0, .slice none 0 0] 25)).alloc (.cells #[.nilIface] 53)).heap[w.heap.size]? = some (.cells #[.string ⟨#[]⟩, .int .i64 0, .slice none 0 0, .slice none 0 0] 25)) := (Below.heap_alloc _ _ _ (by omega)).trans (heap_new _ _)
  have HE : Hid (((w.alloc (.cells #[.string ⟨#[]⟩, .int .i64 0, .slice none 0 0, .slice none 0 0] 25)).alloc (.cells #[.nilIface] 53)).heap[w.heap.size + 1]? = some (.cells #[.nilIface] 53)) := by
    have := heap_new (w.alloc (.cells #[.string ⟨#[]⟩, .int .i64 0, .slice none 0 0, .slice none 0 0] 25)) (.cells #[.nilIface] 53)
    rw [s1] at this
    exact this
  have HW : Hid (∀ W, W.heap[P]? = some (.cells #[.string k, .string d] 28) → Calls Tryz.prog 66 #[.pointer (some ⟨P, 0, none⟩)] W (RdT W k d)) := fun W h => workT P k d W h hk hd
  have HP1 : Hid (((w.alloc (.cells #[.string ⟨#[]⟩, .int .i64 0, .slice none 0 0, .slice none 0 0] 25)).alloc (.cells #[.nilIface] 53)).heap[P]? = some (.cells #[.string k, .string d] 28)) := (HA.out.block _ hP).trans hp
  rw [s1] at s2
  clear hp
  go_enter_defers Tryz.func65, Tryz.ntmps65
  go_wp2_with fail
  generalize (w.alloc (.cells #[.string ⟨#[]⟩, .int .i64 0, .slice none 0 0, .slice none 0 0] 25)).alloc (.cells #[.nilIface] 53) = W2 at *
  refine (HW.out _ HP1.out).mono ?_
  rintro e w3 ⟨hb, h | ⟨nm, num, cv, kv, cs, ks, rfl, hoc, hon, l1, l2, n1, n2, hy⟩⟩
  · obtain ⟨rfl, hno⟩ := h
    have hz : w3.heap[w.heap.size]? = some (.cells #[.string ⟨#[]⟩, .int .i64 0, .slice none 0 0, .slice none 0 0] 25) := (hb.block _ (by omega)).trans HZ.out
    have he : w3.heap[w.heap.size + 1]? = some (.cells #[.nilIface] 53) := (hb.block _ (by omega)).trans HE.out
    have cE : w3.cell? ⟨w.heap.size + 1, 0, none⟩ = some .nilIface := by unfold World.cell?; rw [he]; rfl
    have fE : w3.frozen? ⟨w.heap.size + 1, 0, none⟩ = false := by unfold World.frozen?; rw [he]; rfl
    refine leaves_cons (f := 91) (args := #[.pointer (some ⟨w.heap.size + 1, 0, none⟩)]) (by simp) (by simp [go_sem]) ?_
    refine (catchT 169 (w.heap.size + 1) _ [] _ cE fE).mono ?_
    rintro e u' w4 ⟨rfl, rfl, rfl⟩
    refine ⟨_, ret_table2 rfl _ _ _ _ _ _ _ _ _ (by rfl) (by rfl) ((heap_off (by omega) _).trans hz) (by unfold World.cell?; rw [heap_set he]; rfl), ?_⟩
    exact ⟨(HA.out.trans (hb.mono HA.out.size)).setCell (by simp only; omega) _, .inl ⟨rfl, hno⟩⟩
  · obtain ⟨ca, cc, rfl⟩ := hoc.isSlice
    obtain ⟨ka, kc, rfl⟩ := hon.isSlice
    have HB3 : Hid (Below w.heap.size w w3) := HA.out.trans (hb.mono HA.out.size)
    have hz : w3.heap[w.heap.size]? = some (.cells #[.string ⟨#[]⟩, .int .i64 0, .slice none 0 0, .slice none 0 0] 25) := (hb.block _ (by omega)).trans HZ.out
    have he : w3.heap[w.heap.size + 1]? = some (.cells #[.nilIface] 53) := (hb.block _ (by omega)).trans HE.out
    have z0 : w3.cell? ⟨w.heap.size, 0, none⟩ = some (.string ⟨#[]⟩) := by unfold World.cell?; rw [hz]; rfl
    have z1 : w3.cell? ⟨w.heap.size, 1, none⟩ = some (.int .i64 0) := by unfold World.cell?; rw [hz]; rfl
    have z2 : w3.cell? ⟨w.heap.size, 2, none⟩ = some (.slice none 0 0) := by unfold World.cell?; rw [hz]; rfl
    have z3 : w3.cell? ⟨w.heap.size, 3, none⟩ = some (.slice none 0 0) := by unfold World.cell?; rw [hz]; rfl
    have cE : w3.cell? ⟨w.heap.size + 1, 0, none⟩ = some .nilIface := by unfold World.cell?; rw [he]; rfl
    have fE : w3.frozen? ⟨w.heap.size + 1, 0, none⟩ = false := by unfold World.frozen?; rw [he]; rfl
    have fz : ∀ j, w3.frozen? ⟨w.heap.size, j, none⟩ = false := fun j => by unfold World.frozen?; rw [hz]; rfl
    have fz0 := fz 0
    have fz1 := fz 1
    have fz2 := fz 2
    have fz3 := fz 3
    obtain ⟨W5, hW5⟩ : ∃ W5, (((((w3.setCell ⟨w.heap.size, 0, none⟩ (.string nm)).setCell ⟨w.heap.size, 1, none⟩ (.int .i64 num)).setCell ⟨w.heap.size, 2, none⟩ (.slice ca cs.length cc)).setCell ⟨w.heap.size, 3, none⟩ (.slice ka ks.length kc)).setCell ⟨w.heap.size + 1, 0, none⟩ .nilIface) = W5 := ⟨_, rfl⟩
    have e0 : ∀ b, b ≠ w.heap.size → b ≠ w.heap.size + 1 → W5.heap[b]? = w3.heap[b]? := fun b h1 h2 => by
      rw [← hW5]
      exact (heap_off h2.symm _).trans ((heap_off h1.symm _).trans ((heap_off h1.symm _).trans ((heap_off h1.symm _).trans (heap_off h1.symm _))))
    have HBZ : Hid (Below w.heap.size w W5) := by
      rw [← hW5]
      exact ((((HB3.out.setCell (by simp only; omega) _).setCell (by simp only; omega) _).setCell (by simp only; omega) _).setCell (by simp only; omega) _).setCell (by simp only; omega) _
    have HHZ : Hid (W5.heap[w.heap.size]? = some (.cells #[.string nm, .int .i64 num, .slice ca cs.length cc, .slice ka ks.length kc] 25)) := by
      rw [← hW5]
      exact (heap_off (by omega) _).trans (heap_set (heap_set (heap_set (heap_set hz _) _) _) _)
    have HHE : Hid (W5.cell? ⟨w.heap.size + 1, 0, none⟩ = some .nilIface) := by
      have hne : w.heap.size ≠ w.heap.size + 1 := by omega
      rw [← hW5]
      unfold World.cell?
      rw [heap_set ((heap_off hne _).trans ((heap_off hne _).trans ((heap_off hne _).trans ((heap_off hne _).trans he))))]
      rfl
    have HOC : Hid (ownC W5 w.heap.size (.slice ca cs.length cc) cs) := (hoc.keep fun b hb => e0 b (by have := (hoc.own b hb).1; omega) (by have := (hoc.own b hb).1; omega)).down (by omega)
    have HON : Hid (ownN W5 w.heap.size (.slice ka ks.length kc) ks) := (hon.keep fun b hb => e0 b (by have := (hon.own b hb).1; omega) (by have := (hon.own b hb).1; omega)).down (by omega)
    have HY : Hid (∀ nm' num' cs' ks', Yt nm' num' cs' ks' k d → nm' = nm ∧ num' = num ∧ cs' = cs ∧ ks' = ks) := hy
    clear hy hoc hon hb hz he e0
    go_wp2
    refine leaves_cons (f := 91) (args := #[.pointer (some ⟨w.heap.size + 1, 0, none⟩)]) (by simp) (by simp [go_sem]) ?_
    refine (idleT _ _).mono ?_
    rintro e u' w4 ⟨rfl, rfl, rfl⟩
    refine ⟨_, ret_table2 rfl _ _ _ _ _ _ _ _ _ (by rfl) (by rfl) HHZ.out HHE.out, ?_⟩
    exact ⟨HBZ.out, .inr ⟨nm, num, _, _, cs, ks, rfl, HOC.out, HON.out, l1, l2, n1, n2, HY.out⟩⟩
end Go.Proofs.YtjcffcpmegpjeaaGreatDoor

namespace Go.Proofs.YtjcffcpmegpjeaaGreatDoor
open Go.ChangeShapes Go.WideShapes Go.ChangeAt Go.RowKit
set_option linter.unusedVariables false
set_option maxRecDepth 100000
/-- What decoding a pair comes to: the table that has it, or none. -/
def DcT (ok bad : Value) (w : World) (k d : ByteArray) (e : Ending) (w' : World) : Prop :=
  Below w.heap.size w w' ∧ ((e = .returned (.tuple #[.agg #[.string ⟨#[]⟩, .int .i64 0, .slice none 0 0, .slice none 0 0], bad]) ∧ ∀ nm num cs ks, ¬ Yt nm num cs ks k d) ∨ ∃ (nm : ByteArray) (num : Int) (ca : Option Addr) (cc : Nat) (ka : Option Addr) (kc : Nat) (cs : List CD) (ks : List Int), e = .returned (.tuple #[.agg #[.string nm, .int .i64 num, .slice ca cs.length cc, .slice ka ks.length kc], ok]) ∧ ownC w' w.heap.size (.slice ca cs.length cc) cs ∧ ownN w' w.heap.size (.slice ka ks.length kc) ks ∧ Yt nm num cs ks k d ∧ ∀ nm' num' cs' ks', Yt nm' num' cs' ks' k d → nm' = nm ∧ num' = num ∧ cs' = cs ∧ ks' = ks)
theorem enE_yes {nm : ByteArray} {num : Int} {cs : List CD} {ks : List Int} {k d : ByteArray} (y : Yt nm num cs ks k d) : enE nm num cs ks = 0 ∧ enK nm num cs ks = k ∧ enD nm num cs ks = d := by
  have h : enE nm num cs ks = 0 := by unfold enE; rw [if_pos y.tab, if_neg (by have := y.size; omega)]
  refine ⟨h, ?_, ?_⟩
  · unfold enK; rw [if_pos h, y.key]
  · unfold enD; rw [if_pos h, y.data]
theorem enE_back {nm : ByteArray} {num : Int} {cs : List CD} {ks : List Int} {k d : ByteArray} (h : enE nm num cs ks = 0) (hk : enK nm num cs ks = k) (hd : enD nm num cs ks = d) (ht : num ≤ 9223372036854775807) : Yt nm num cs ks k d := by
  unfold enK at hk
  unfold enD at hd
  rw [if_pos h] at hk hd
  unfold enE at h
  split at h
  · rename_i h1
    split at h
    · cases h
    · rename_i h2
      exact ⟨h1, ht, hk.symm, hd.symm, by omega⟩
  · cases h
/-- What is kept of the pair's block and of the result's while a pair is decoded. -/
structure DQS (w W : World) (k d : ByteArray) : Prop where
  below : Below w.heap.size w W
  pair : W.heap[w.heap.size]? = some (.cells #[.string k, .string d] 28)
  z : W.heap[w.heap.size + 1]? = some (.cells #[.string ⟨#[]⟩, .int .i64 0, .slice none 0 0, .slice none 0 0] 25)
  size : w.heap.size + 2 ≤ W.heap.size
theorem DQS.later {w W W' : World} {k d : ByteArray} {B : Nat} (h : DQS w W k d) (hb : Below B W W') (hB : w.heap.size + 2 ≤ B) : DQS w W' k d :=
  ⟨h.below.trans (hb.mono (by omega)), (hb.block _ (by omega)).trans h.pair, (hb.block _ (by omega)).trans h.z, by have := hb.size; have := h.size; omega⟩
theorem DQS.cells {w W : World} {k d : ByteArray} (h : DQS w W k d) : W.cell? ⟨w.heap.size, 0, none⟩ = some (.string k) ∧ W.cell? ⟨w.heap.size, 1, none⟩ = some (.string d) ∧ W.cell? ⟨w.heap.size + 1, 0, none⟩ = some (.string ⟨#[]⟩) ∧ W.cell? ⟨w.heap.size + 1, 1, none⟩ = some (.int .i64 0) ∧ W.cell? ⟨w.heap.size + 1, 2, none⟩ = some (.slice none 0 0) ∧ W.cell? ⟨w.heap.size + 1, 3, none⟩ = some (.slice none 0 0) ∧ W.frozen? ⟨w.heap.size + 1, 0, none⟩ = false ∧ W.frozen? ⟨w.heap.size + 1, 1, none⟩ = false ∧ W.frozen? ⟨w.heap.size + 1, 2, none⟩ = false ∧ W.frozen? ⟨w.heap.size + 1, 3, none⟩ = false := by
  have h1 := h.pair
  have h2 := h.z
  unfold World.cell? World.frozen?
  rw [h1, h2]
  exact ⟨rfl, rfl, rfl, rfl, rfl, rfl, rfl, rfl, rfl, rfl⟩
theorem DQS.new (w : World) (k d : ByteArray) : DQS w ((w.alloc (.cells #[.string k, .string d] 28)).alloc (.cells #[.string ⟨#[]⟩, .int .i64 0, .slice none 0 0, .slice none 0 0] 25)) k d := ⟨(PRS.new w k d).below, (PRS.new w k d).pair, (PRS.new w k d).z, (PRS.new w k d).size⟩
/-- A table stored into the result's block. -/
theorem DQS.put {w W : World} {k d : ByteArray} (h : DQS w W k d) (x : ByteArray) (y : Int) (a b : Value) : Below w.heap.size w ((((W.setCell ⟨w.heap.size + 1, 0, none⟩ (.string x)).setCell ⟨w.heap.size + 1, 1, none⟩ (.int .i64 y)).setCell ⟨w.heap.size + 1, 2, none⟩ a).setCell ⟨w.heap.size + 1, 3, none⟩ b) ∧ ((((W.setCell ⟨w.heap.size + 1, 0, none⟩ (.string x)).setCell ⟨w.heap.size + 1, 1, none⟩ (.int .i64 y)).setCell ⟨w.heap.size + 1, 2, none⟩ a).setCell ⟨w.heap.size + 1, 3, none⟩ b).heap[w.heap.size + 1]? = some (.cells #[.string x, .int .i64 y, a, b] 25) ∧ ∀ j, j ≠ w.heap.size + 1 → ((((W.setCell ⟨w.heap.size + 1, 0, none⟩ (.string x)).setCell ⟨w.heap.size + 1, 1, none⟩ (.int .i64 y)).setCell ⟨w.heap.size + 1, 2, none⟩ a).setCell ⟨w.heap.size + 1, 3, none⟩ b).heap[j]? = W.heap[j]? :=
  ⟨(((h.below.setCell (by simp only; omega) _).setCell (by simp only; omega) _).setCell (by simp only; omega) _).setCell (by simp only; omega) _, heap_set (heap_set (heap_set (heap_set h.z _) _) _) _, fun j hj => (heap_off hj.symm _).trans ((heap_off hj.symm _).trans ((heap_off hj.symm _).trans (heap_off hj.symm _)))⟩
set_option maxHeartbeats 8000000 in
theorem decTabT (k d : ByteArray) (w : World) (hk : k.size ≤ 1125899906842624) (hdz : d.size ≤ 140737488355328) : Calls Tryz.prog 33 #[pairV k d] w (DcT .nilIface (.iface 90 (.agg #[.int .i64 169])) w k d) := by
  have HN : Hid (DQS w _ k d) := DQS.new w k d
  unfold pairV
  go_enter Tryz.func33, Tryz.ntmps33
  by_cases hd : d.size ≤ 512
  case neg =>
    have hdi : (512 : Int) < (d.size : Int) := by omega
    have HY : Hid (∀ nm num cs ks, ¬ Yt nm num cs ks k d) := fun nm num cs ks y => hd (by rw [y.data]; exact y.size)
    obtain ⟨_, c1, _⟩ := HN.out.cells
    clear hd
    go_wp2
    exact bodyPost_ret (res_row_tmp (p := 2) (ty := 25) (q := 3) rfl _ _ (w.heap.size + 1) 25 _ (0, 0) _ rfl HN.out.z Tryz.underlying25 rfl (by kernel_rfl)) rfl ⟨HN.out.below, .inl ⟨rfl, HY.out⟩⟩
  have hdi : ¬ (512 : Int) < (d.size : Int) := by omega
  have HC : Hid (∀ W, W.heap[w.heap.size]? = some (.cells #[.string k, .string d] 28) → Calls Tryz.prog 65 #[.func (.func 66) #[] #[.pointer (some ⟨w.heap.size, 0, none⟩)]] W (CgT W k d)) := fun W h => caughtT w.heap.size k d W h hk hd
  have hmf : ∀ (fn : Fn) (first cap : Array Value) (w : World), (Instr.makeFunc fn first cap).run Tryz.prog w = .ok (.func fn first cap) w := fun _ _ _ _ => rfl
  obtain ⟨_, c1, _⟩ := HN.out.cells
  go_wp2_with fail
  refine (HC.out _ HN.out.pair).mono ?_
  generalize (w.alloc (.cells #[.string k, .string d] 28)).alloc (.cells #[.string ⟨#[]⟩, .int .i64 0, .slice none 0 0, .slice none 0 0] 25) = W2 at *
  rintro e w3 ⟨hb, h | ⟨nm, num, cv, kv, cs, ks, rfl, hoc, hon, l1, l2, n1, n2, hy⟩⟩
  · obtain ⟨rfl, hno⟩ := h
    have HY : Hid (∀ nm num cs ks, ¬ Yt nm num cs ks k d) := hno
    have HN3 : Hid (DQS w w3 k d) := HN.out.later hb HN.out.size
    have HA : Hid (Below w3.heap.size w3 (w3.alloc (.cells #[.string ⟨#[]⟩, .int .i64 0, .slice none 0 0, .slice none 0 0] 25))) := (Below.refl _ _).alloc (Nat.le_refl _) _
    have HN4 : Hid (DQS w (w3.alloc (.cells #[.string ⟨#[]⟩, .int .i64 0, .slice none 0 0, .slice none 0 0] 25)) k d) := HN3.out.later HA.out HN3.out.size
    clear hb hno c1 HN HC hmf
    obtain ⟨_, _, z0, z1, z2, z3, f0, f1, f2, f3⟩ := HN4.out.cells
    obtain ⟨p1, p2, _⟩ := HN4.out.put ⟨#[]⟩ 0 (.slice none 0 0) (.slice none 0 0)
    have HP1 : Hid _ := p1
    have HP2 : Hid _ := p2
    clear p1 p2
    go_wp2
    exact bodyPost_ret (res_row_tmp (p := 2) (ty := 25) (q := 3) rfl _ _ (w.heap.size + 1) 25 _ (0, 0) _ rfl HP2.out Tryz.underlying25 rfl (by kernel_rfl)) rfl ⟨HP1.out, .inl ⟨rfl, HY.out⟩⟩
  obtain ⟨ca, cc, rfl⟩ := hoc.isSlice
  obtain ⟨ka, kc, rfl⟩ := hon.isSlice
  have HN3 : Hid (DQS w w3 k d) := HN.out.later hb HN.out.size
  have HA : Hid (Below w3.heap.size w3 (w3.alloc (.cells #[.string nm, .int .i64 num, .slice ca cs.length cc, .slice ka ks.length kc] 25))) := (Below.refl _ _).alloc (Nat.le_refl _) _
  have HN4 : Hid (DQS w (w3.alloc (.cells #[.string nm, .int .i64 num, .slice ca cs.length cc, .slice ka ks.length kc] 25)) k d) := HN3.out.later HA.out HN3.out.size
  have HT4 : Hid ((w3.alloc (.cells #[.string nm, .int .i64 num, .slice ca cs.length cc, .slice ka ks.length kc] 25)).heap[w3.heap.size]? = some (.cells #[.string nm, .int .i64 num, .slice ca cs.length cc, .slice ka ks.length kc] 25)) := heap_new _ _
  have s4 := szAl w3 (.cells #[.string nm, .int .i64 num, .slice ca cs.length cc, .slice ka ks.length kc] 25)
  have HOC : Hid (ownC (w3.alloc (.cells #[.string nm, .int .i64 num, .slice ca cs.length cc, .slice ka ks.length kc] 25)) W2.heap.size (.slice ca cs.length cc) cs) := hoc.later HA.out
  have HON : Hid (ownN (w3.alloc (.cells #[.string nm, .int .i64 num, .slice ca cs.length cc, .slice ka ks.length kc] 25)) W2.heap.size (.slice ka ks.length kc) ks) := hon.later HA.out
  have HY : Hid (∀ nm' num' cs' ks', Yt nm' num' cs' ks' k d → nm' = nm ∧ num' = num ∧ cs' = cs ∧ ks' = ks) := hy
  have hW2 := HN.out.size
  clear hb hy hoc hon c1 HN HC hmf HN3
  go_wp2_with fail
  generalize hW4 : w3.alloc (.cells #[.string nm, .int .i64 num, .slice ca cs.length cc, .slice ka ks.length kc] 25) = W4 at *
  clear hW4
  refine (encTabT nm num _ _ cs ks W4.heap.size W4 (Nat.le_refl _) HOC.out.sees HON.out.sees (by omega) (by omega) ⟨n1, n2⟩).mono ?_
  rintro e w5 ⟨rfl, hb5⟩
  have HN5 : Hid (DQS w w5 k d) := HN4.out.later hb5 HN4.out.size
  have HT5 : Hid (w5.heap[w3.heap.size]? = some (.cells #[.string nm, .int .i64 num, .slice ca cs.length cc, .slice ka ks.length kc] 25)) := (hb5.block _ (by omega)).trans HT4.out
  have HOC5 : Hid (ownC w5 W2.heap.size (.slice ca cs.length cc) cs) := HOC.out.later hb5
  have HON5 : Hid (ownN w5 W2.heap.size (.slice ka ks.length kc) ks) := HON.out.later hb5
  have h35 : w3.heap.size < w5.heap.size := by have := hb5.size; omega
  clear hb5 HN4 HT4 HOC HON HA
  have HB : Hid (∀ _ : Unit, enE nm num cs ks = 0 → enK nm num cs ks = k → enD nm num cs ks = d → Yt nm num cs ks k d) := fun _ h1 h2 h3 => enE_back h1 h2 h3 n2
  have HF : Hid (∀ _ : Unit, ¬ (enE nm num cs ks = 0 ∧ enK nm num cs ks = k ∧ enD nm num cs ks = d) → ∀ nm' num' cs' ks', ¬ Yt nm' num' cs' ks' k d) := fun _ hn nm' num' cs' ks' y => by
    obtain ⟨rfl, rfl, rfl, rfl⟩ := HY.out _ _ _ _ y
    exact hn (enE_yes y)
  generalize enE nm num cs ks = E at *
  generalize enK nm num cs ks = K at *
  generalize enD nm num cs ks = D at *
  have HA6 : Hid (Below w5.heap.size w5 (w5.alloc (.cells #[.string K, .string D] 28))) := (Below.refl _ _).alloc (Nat.le_refl _) _
  have HN6 : Hid (DQS w (w5.alloc (.cells #[.string K, .string D] 28)) k d) := HN5.out.later HA6.out HN5.out.size
  have ht6 : (w5.alloc (.cells #[.string K, .string D] 28)).heap[w3.heap.size]? = some (.cells #[.string nm, .int .i64 num, .slice ca cs.length cc, .slice ka ks.length kc] 25) := (HA6.out.block _ h35).trans HT5.out
  have HOC6 : Hid (ownC (w5.alloc (.cells #[.string K, .string D] 28)) W2.heap.size (.slice ca cs.length cc) cs) := HOC5.out.later HA6.out
  have HON6 : Hid (ownN (w5.alloc (.cells #[.string K, .string D] 28)) W2.heap.size (.slice ka ks.length kc) ks) := HON5.out.later HA6.out
  obtain ⟨a0, a1, z0, z1, z2, z3, f0, f1, f2, f3⟩ := HN6.out.cells
  obtain ⟨p1, p2, _⟩ := HN6.out.put ⟨#[]⟩ 0 (.slice none 0 0) (.slice none 0 0)
  obtain ⟨q1, q2, q3⟩ := HN6.out.put nm num (.slice ca cs.length cc) (.slice ka ks.length kc)
  have HP1 : Hid _ := p1
  have HP2 : Hid _ := p2
  have HQ1 : Hid _ := q1
  have HQ2 : Hid _ := q2
  have HQ3 : Hid (∀ _ : Unit, _) := fun _ => q3
  have t0 : (w5.alloc (.cells #[.string K, .string D] 28)).cell? ⟨w3.heap.size, 0, none⟩ = some (.string nm) := by unfold World.cell?; rw [ht6]; rfl
  have t1 : (w5.alloc (.cells #[.string K, .string D] 28)).cell? ⟨w3.heap.size, 1, none⟩ = some (.int .i64 num) := by unfold World.cell?; rw [ht6]; rfl
  have t2 : (w5.alloc (.cells #[.string K, .string D] 28)).cell? ⟨w3.heap.size, 2, none⟩ = some (.slice ca cs.length cc) := by unfold World.cell?; rw [ht6]; rfl
  have t3 : (w5.alloc (.cells #[.string K, .string D] 28)).cell? ⟨w3.heap.size, 3, none⟩ = some (.slice ka ks.length kc) := by unfold World.cell?; rw [ht6]; rfl
  clear p1 p2 q1 q2 q3 ht6 HA6 HN5 HT5 HOC5 HON5
  unfold pairV
  by_cases hE : E = 0
  · subst hE
    rw [errO_nil]
    by_cases hK : K.toList = k.toList
    · by_cases hD : D.toList = d.toList
      · have HYY : Hid (Yt nm num cs ks k d) := HB.out () rfl (ba_inj hK) (ba_inj hD)
        have hKb : (K.toList == k.toList) = true := by simp [hK]
        have hDb : (D.toList == d.toList) = true := by simp [hD]
        clear HB HF HP1 HP2 hK hD
        go_wp2
        refine bodyPost_ret (res_row_tmp (p := 2) (ty := 25) (q := 3) rfl _ _ (w.heap.size + 1) 25 _ (0, 0) _ rfl HQ2.out Tryz.underlying25 rfl (by kernel_rfl)) rfl ⟨HQ1.out, .inr ⟨nm, num, ca, cc, ka, kc, cs, ks, rfl, ?_, ?_, HYY.out, HY.out⟩⟩
        · exact (HOC6.out.keep fun b hb => HQ3.out () b (by have := (HOC6.out.own b hb).1; omega)).down (by omega)
        · exact (HON6.out.keep fun b hb => HQ3.out () b (by have := (HON6.out.own b hb).1; omega)).down (by omega)
      · have HNO : Hid (∀ nm num cs ks, ¬ Yt nm num cs ks k d) := HF.out () (fun h => hD (by rw [h.2.2]))
        have hKb : (K.toList == k.toList) = true := by simp [hK]
        have hDb : (D.toList == d.toList) = false := by simp [hD]
        clear HB HF HQ1 HQ2 HQ3 hK hD
        go_wp2
        exact bodyPost_ret (res_row_tmp (p := 2) (ty := 25) (q := 3) rfl _ _ (w.heap.size + 1) 25 _ (0, 0) _ rfl HP2.out Tryz.underlying25 rfl (by kernel_rfl)) rfl ⟨HP1.out, .inl ⟨rfl, HNO.out⟩⟩
    · have HNO : Hid (∀ nm num cs ks, ¬ Yt nm num cs ks k d) := HF.out () (fun h => hK (by rw [h.2.1]))
      have hKb : (K.toList == k.toList) = false := by simp [hK]
      clear HB HF HQ1 HQ2 HQ3 hK
      go_wp2
      exact bodyPost_ret (res_row_tmp (p := 2) (ty := 25) (q := 3) rfl _ _ (w.heap.size + 1) 25 _ (0, 0) _ rfl HP2.out Tryz.underlying25 rfl (by kernel_rfl)) rfl ⟨HP1.out, .inl ⟨rfl, HNO.out⟩⟩
  · rw [errO_not hE]
    have HNO : Hid (∀ nm num cs ks, ¬ Yt nm num cs ks k d) := HF.out () (fun h => hE h.1)
    clear HB HF HQ1 HQ2 HQ3 hE
    go_wp2
    exact bodyPost_ret (res_row_tmp (p := 2) (ty := 25) (q := 3) rfl _ _ (w.heap.size + 1) 25 _ (0, 0) _ rfl HP2.out Tryz.underlying25 rfl (by kernel_rfl)) rfl ⟨HP1.out, .inl ⟨rfl, HNO.out⟩⟩
end Go.Proofs.YtjcffcpmegpjeaaGreatDoor

namespace Go.Proofs.YtjcffcpmegpjeaaGreatDoor
open Go.ChangeShapes Go.WideShapes Go.ChangeAt Go.RowKit
set_option linter.unusedVariables false
set_option maxRecDepth 100000
set_option maxHeartbeats 4000000 in
theorem DecTabT (k d : ByteArray) (w : World) (hk : k.size ≤ 1125899906842624) (hdz : d.size ≤ 140737488355328) (hg : ErrTy w) : Calls Tryz.prog 15 #[pairV k d] w (DcT (.int .i64 0) (.int .i64 169) w k d) := by
  have HN : Hid (DQS w _ k d) := DQS.new w k d
  have HD : Hid (∀ W, Calls Tryz.prog 33 #[.agg #[.string k, .string d]] W (DcT .nilIface (.iface 90 (.agg #[.int .i64 169])) W k d)) := fun W => decTabT k d W hk hdz
  have HG : Hid (ErrTy w) := hg
  clear hg
  unfold pairV
  obtain ⟨c0, c1, _⟩ := HN.out.cells
  go_enter Tryz.func15, Tryz.ntmps15
  go_wp2_with fail
  refine (HD.out _).mono ?_
  generalize (w.alloc (.cells #[.string k, .string d] 28)).alloc (.cells #[.string ⟨#[]⟩, .int .i64 0, .slice none 0 0, .slice none 0 0] 25) = W2 at *
  rintro e w3 ⟨hb, ⟨rfl, hno⟩ | ⟨nm, num, ca, cc, ka, kc, cs, ks, rfl, hoc, hon, hy, hyu⟩⟩
  · have HN3 : Hid (DQS w w3 k d) := HN.out.later hb HN.out.size
    have HY : Hid (∀ nm num cs ks, ¬ Yt nm num cs ks k d) := hno
    have HG3 : Hid (ErrTy w3) := HG.out.later HN3.out.below HG.out.pos
    clear hb hno HN c0 c1
    go_wp2_with fail
    refine (toldT_err _ _ _ _ 169 (by decide) w3 HG3.out).mono ?_
    rintro e w4 ⟨rfl, hb4⟩
    have HN4 : Hid (DQS w w4 k d) := HN3.out.later hb4 HN3.out.size
    clear hb4 HN3
    obtain ⟨_, _, z0, z1, z2, z3, f0, f1, f2, f3⟩ := HN4.out.cells
    obtain ⟨p1, p2, _⟩ := HN4.out.put ⟨#[]⟩ 0 (.slice none 0 0) (.slice none 0 0)
    have HP1 : Hid _ := p1
    have HP2 : Hid _ := p2
    clear p1 p2
    go_wp2
    exact bodyPost_ret (res_row_tmp (p := 2) (ty := 25) (q := 3) rfl _ _ (w.heap.size + 1) 25 _ (0, 0) _ rfl HP2.out Tryz.underlying25 rfl (by kernel_rfl)) rfl ⟨HP1.out, .inl ⟨rfl, HY.out⟩⟩
  · have HN3 : Hid (DQS w w3 k d) := HN.out.later hb HN.out.size
    have HY : Hid (Yt nm num cs ks k d) := hy
    have HYU : Hid (∀ nm' num' cs' ks', Yt nm' num' cs' ks' k d → nm' = nm ∧ num' = num ∧ cs' = cs ∧ ks' = ks) := hyu
    have hW2 := HN.out.size
    have HOC : Hid (ownC w3 W2.heap.size (.slice ca cs.length cc) cs) := hoc
    have HON : Hid (ownN w3 W2.heap.size (.slice ka ks.length kc) ks) := hon
    clear hb hy hyu hoc hon HN c0 c1
    go_wp2_with fail
    refine (toldT_ok nm num ca cs.length cc ka ks.length kc w3).mono ?_
    rintro e w4 ⟨rfl, hb4⟩
    have HN4 : Hid (DQS w w4 k d) := HN3.out.later hb4 HN3.out.size
    have HOC4 : Hid (ownC w4 W2.heap.size (.slice ca cs.length cc) cs) := HOC.out.later hb4
    have HON4 : Hid (ownN w4 W2.heap.size (.slice ka ks.length kc) ks) := HON.out.later hb4
    clear hb4 HN3 HOC HON
    obtain ⟨_, _, z0, z1, z2, z3, f0, f1, f2, f3⟩ := HN4.out.cells
    obtain ⟨q1, q2, q3⟩ := HN4.out.put nm num (.slice ca cs.length cc) (.slice ka ks.length kc)
    have HQ1 : Hid _ := q1
    have HQ2 : Hid _ := q2
    have HQ3 : Hid (∀ _ : Unit, _) := fun _ => q3
    clear q1 q2 q3
    go_wp2
    refine bodyPost_ret (res_row_tmp (p := 2) (ty := 25) (q := 3) rfl _ _ (w.heap.size + 1) 25 _ (0, 0) _ rfl HQ2.out Tryz.underlying25 rfl (by kernel_rfl)) rfl ⟨HQ1.out, .inr ⟨nm, num, ca, cc, ka, kc, cs, ks, rfl, ?_, ?_, HY.out, HYU.out⟩⟩
    · exact (HOC4.out.keep fun b hb => HQ3.out () b (by have := (HOC4.out.own b hb).1; omega)).down (by omega)
    · exact (HON4.out.keep fun b hb => HQ3.out () b (by have := (HON4.out.own b hb).1; omega)).down (by omega)
end Go.Proofs.YtjcffcpmegpjeaaGreatDoor
