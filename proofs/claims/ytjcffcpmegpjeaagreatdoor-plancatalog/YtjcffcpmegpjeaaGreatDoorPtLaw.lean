import Derived.Test.YtjcffcpmegpjeaaGreatDoorPtD10
namespace Go.Proofs.YtjcffcpmegpjeaaGreatDoor
open Go.ChangeShapes Go.WideShapes Go.ChangeAt Go.RowKit
set_option linter.unusedVariables false
set_option maxRecDepth 100000
theorem catK_size {n : ByteArray} (h : n.size ≤ 32) : (catK n).size ≤ 1125899906842624 := by
  unfold catK
  rw [strOfNums_size]
  have := keyL_len (catV n) (fun v hv => by
    unfold catV at hv
    simp only [List.mem_cons, List.not_mem_nil, or_false] at hv
    rcases hv with rfl | rfl
    · exact .inr (.inr (.inl rfl))
    · exact .inr (.inr (.inr ⟨rfl, by show n.size ≤ 4096; omega⟩)))
  have e : (catV n).length = 2 := rfl
  omega
set_option maxHeartbeats 8000000 in
theorem tables_law (nm : ByteArray) (num : Int) (cv kv : Value) (cs : List CD) (ks : List Int) (B : Nat) (w : World) (hB : B ≤ w.heap.size) (hs : SeesC w B cv cs) (hu : SeesG (Value.int .i64) w B kv ks)
    (hl : cs.length ≤ 140737488355328) (hkl : ks.length ≤ 140737488355328) (hnum : -9223372036854775808 ≤ num ∧ num ≤ 9223372036854775807) (hg : ErrTy w) :
    Calls Tryz.prog 5 #[.agg #[.string nm, .int .i64 num, cv, kv]] w fun e w' => e = .returned (.bool true) ∧ Below w.heap.size w w' := by
  have HN : Hid _ := TBS.new w nm num cv kv
  obtain ⟨ca, cc, rfl⟩ := hs.form
  obtain ⟨ka, kc, rfl⟩ := hu.form
  have HP : Hid (∀ W : World, TBS w W nm num (.slice ca cs.length cc) (.slice ka ks.length kc) → _) := fun W (h : TBS w W nm num (.slice ca cs.length cc) (.slice ka ks.length kc)) => EncTabT nm num _ _ cs ks B W (by have := h.size; omega) (hs.later (h.below.mono hB)) (hu.later (h.below.mono hB)) hl hkl hnum (hg.later h.below hg.pos)
  have HR : Hid (∀ W : World, TBS w W nm num (.slice ca cs.length cc) (.slice ka ks.length kc) → _) := fun W (h : TBS w W nm num (.slice ca cs.length cc) (.slice ka ks.length kc)) => EncTabR nm num _ _ cs ks B W (by have := h.size; omega) (hs.later (h.below.mono hB)) (hu.later (h.below.mono hB)) hl hkl hnum
  have HQ : Hid (enE nm num cs ks = 0 → ∀ W : World, TBS w W nm num (.slice ca cs.length cc) (.slice ka ks.length kc) → Calls Tryz.prog 15 #[pairV (enK nm num cs ks) (enD nm num cs ks)] W fun e w' => (∃ (ca' : Option Addr) (cc' : Nat) (ka' : Option Addr) (kc' : Nat), e = .returned (.tuple #[.agg #[.string nm, .int .i64 num, .slice ca' cs.length cc', .slice ka' ks.length kc'], .int .i64 0]) ∧ ownC w' W.heap.size (.slice ca' cs.length cc') cs ∧ ownN w' W.heap.size (.slice ka' ks.length kc') ks) ∧ Below W.heap.size W w') := by
    intro hE W h
    have y : Yt nm num cs ks (enK nm num cs ks) (enD nm num cs ks) := enE_back hE rfl rfl hnum.2
    have hkz : (enK nm num cs ks).size ≤ 1125899906842624 := by
      rw [y.key]
      exact catK_size y.few.2.2.1
    have hdz : (enD nm num cs ks).size ≤ 140737488355328 := by
      have := y.size
      rw [← y.data] at this
      omega
    refine (DecTabT _ _ W hkz hdz (hg.later h.below hg.pos)).mono ?_
    rintro e w' ⟨hb, ⟨rfl, hno⟩ | ⟨nm', num', ca', cc', ka', kc', cs', ks', rfl, hoc, hon, hy, hyu⟩⟩
    · exact absurd y (hno _ _ _ _)
    · obtain ⟨e1, e2, e3, e4⟩ := hyu _ _ _ _ y
      subst e1 e2 e3 e4
      exact ⟨⟨_, _, _, _, rfl, hoc, hon⟩, hb⟩
  have HS : Hid (SeesC w B (.slice ca cs.length cc) cs) := hs
  have HU : Hid (SeesG (Value.int .i64) w B (.slice ka ks.length kc) ks) := hu
  clear hs hu hg
  generalize enE nm num cs ks = E at *
  generalize enK nm num cs ks = K at *
  generalize enD nm num cs ks = D at *
  obtain ⟨t0, t1, t2, t3⟩ := HN.out.cells
  unfold pairV at HP HR HQ
  go_enter Tryz.func5, Tryz.ntmps5
  go_wp2_with fail
  refine (HP.out _ HN.out).mono ?_
  generalize w.alloc (.cells #[.string nm, .int .i64 num, .slice ca cs.length cc, .slice ka ks.length kc] 25) = W at *
  rintro e w3 ⟨rfl, hb3⟩
  have HN3 : Hid (TBS w w3 nm num (.slice ca cs.length cc) (.slice ka ks.length kc)) := HN.out.later hb3 HN.out.size
  clear hb3 HP HN t0 t1 t2 t3
  have HB3 : Hid (Below w3.heap.size w3 (w3.alloc (.cells #[.string K, .string D] 28))) := (Below.refl _ _).alloc (Nat.le_refl _) _
  have HN4 : Hid (RLS w (w3.alloc (.cells #[.string K, .string D] 28)) nm num (.slice ca cs.length cc) (.slice ka ks.length kc) w3.heap.size K D) := ⟨HN3.out.later HB3.out HN3.out.size, heap_new _ _⟩
  obtain ⟨t0, t1, t2, t3, t4, t5⟩ := HN4.out.cells
  go_wp2_with fail
  refine (HR.out _ HN4.out.tbs).mono ?_
  generalize w3.alloc (.cells #[.string K, .string D] 28) = w4 at *
  rintro e w5 ⟨rfl, hb5⟩
  have HN5 : Hid (RLS w w5 nm num (.slice ca cs.length cc) (.slice ka ks.length kc) w3.heap.size K D) := HN4.out.later hb5
  clear hb5 HR HN3 HN4 t0 t1 t2 t3 t4 t5
  have HB5 : Hid (Below w5.heap.size w5 (w5.alloc (.cells #[.string K, .string D] 28))) := (Below.refl _ _).alloc (Nat.le_refl _) _
  have HN6 : Hid (RLS w (w5.alloc (.cells #[.string K, .string D] 28)) nm num (.slice ca cs.length cc) (.slice ka ks.length kc) w3.heap.size K D) := HN5.out.later HB5.out
  have u0 : (w5.alloc (.cells #[.string K, .string D] 28)).cell? ⟨w5.heap.size, 0, none⟩ = some (.string K) := by simp
  have u1 : (w5.alloc (.cells #[.string K, .string D] 28)).cell? ⟨w5.heap.size, 1, none⟩ = some (.string D) := by simp
  obtain ⟨t0, t1, t2, t3, t4, t5⟩ := HN6.out.cells
  go_wp2_with fail
  refine (numT E _).mono ?_
  generalize w5.alloc (.cells #[.string K, .string D] 28) = w6 at *
  rintro e w7 ⟨rfl, rfl⟩
  by_cases hE : E = 0
  · subst hE
    have HQQ : Hid _ := HQ.out rfl
    clear HQ
    go_wp2_with fail
    refine (HQQ.out _ HN6.out.tbs).mono ?_
    rintro e w8 ⟨⟨ca', cc', ka', kc', rfl, hoc, hon⟩, hb8⟩
    have HN8 : Hid (RLS w w8 nm num (.slice ca cs.length cc) (.slice ka ks.length kc) w3.heap.size K D) := HN6.out.later hb8
    have HA : Hid (Below w8.heap.size w8 (w8.alloc (.cells #[.string nm, .int .i64 num, .slice ca' cs.length cc', .slice ka' ks.length kc'] 25))) := (Below.refl _ _).alloc (Nat.le_refl _) _
    have HN9 : Hid (RLS w (w8.alloc (.cells #[.string nm, .int .i64 num, .slice ca' cs.length cc', .slice ka' ks.length kc'] 25)) nm num (.slice ca cs.length cc) (.slice ka ks.length kc) w3.heap.size K D) := HN8.out.later HA.out
    have HOC : Hid (ownC (w8.alloc (.cells #[.string nm, .int .i64 num, .slice ca' cs.length cc', .slice ka' ks.length kc'] 25)) w7.heap.size (.slice ca' cs.length cc') cs) := hoc.later HA.out
    have HON : Hid (ownN (w8.alloc (.cells #[.string nm, .int .i64 num, .slice ca' cs.length cc', .slice ka' ks.length kc'] 25)) w7.heap.size (.slice ka' ks.length kc') ks) := hon.later HA.out
    have hu9 := heap_new w8 (.cells #[.string nm, .int .i64 num, .slice ca' cs.length cc', .slice ka' ks.length kc'] 25)
    clear hoc hon hb8 t0 t1 t2 t3 t4 t5 u0 u1
    generalize hw9 : w8.alloc (.cells #[.string nm, .int .i64 num, .slice ca' cs.length cc', .slice ka' ks.length kc'] 25) = w9 at *
    have v0 : w9.cell? ⟨w8.heap.size, 0, none⟩ = some (.string nm) := by unfold World.cell?; rw [hu9]; rfl
    have v1 : w9.cell? ⟨w8.heap.size, 1, none⟩ = some (.int .i64 num) := by unfold World.cell?; rw [hu9]; rfl
    have v2 : w9.cell? ⟨w8.heap.size, 2, none⟩ = some (.slice ca' cs.length cc') := by unfold World.cell?; rw [hu9]; rfl
    have v3 : w9.cell? ⟨w8.heap.size, 3, none⟩ = some (.slice ka' ks.length kc') := by unfold World.cell?; rw [hu9]; rfl
    obtain ⟨t0, t1, t2, t3, t4, t5⟩ := HN9.out.cells
    have HSM : Hid (∀ _ : Unit, _) := fun _ => sameTab nm num _ _ _ _ cs ks w9.heap.size w9 (Nat.le_refl _) ((HS.out.later (HN9.out.tbs.below.mono hB)).up (by have := HN9.out.tbs.below.size; omega)) ((HU.out.later (HN9.out.tbs.below.mono hB)).up (by have := HN9.out.tbs.below.size; omega)) HOC.out.sees HON.out.sees hl hkl
    clear hu9
    go_wp2_with fail
    refine (HSM.out ()).mono ?_
    rintro e w10 ⟨rfl, hb10⟩
    have HB10 : Hid (Below w.heap.size w w10) := HN9.out.tbs.below.trans (hb10.mono HN9.out.tbs.below.size)
    clear hb10
    go_wp2_with fail
    refine (numT 0 w10).mono ?_
    rintro e w11 ⟨rfl, rfl⟩
    go_wp2
    go_ret
    exact ⟨rfl, HB10.out⟩
  · have hEb : (E != 0) = true := by simp [hE]
    clear HQ hE
    go_wp2
    go_ret
    exact ⟨rfl, HN6.out.tbs.below⟩
end Go.Proofs.YtjcffcpmegpjeaaGreatDoor

namespace Go.Proofs.YtjcffcpmegpjeaaGreatDoor
open Go.ChangeShapes Go.WideShapes Go.ChangeAt Go.RowKit
set_option linter.unusedVariables false
set_option maxRecDepth 100000
theorem tables_open (nm : ByteArray) (num : Int) (ca : Option Addr) (cn cc : Nat) (ka : Option Addr) (kn kc : Nat) (cl : List CD) (kl : List Int) (W : World)
    (hx : TbIn W num (.slice ca cn cc) (.slice ka kn kc) cl kl ∧ cl.length = cn ∧ kl.length = kn) (room : cn * 32 ≤ reachBytes ∧ kn * 8 ≤ reachBytes) (hg : ErrTy W) :
    Calls Tryz.prog 5 #[.agg #[.string nm, .int .i64 num, .slice ca cn cc, .slice ka kn kc]] W fun e w' => e = .returned (.bool true) ∧ Below W.heap.size W w' := by
  unfold reachBytes at room
  obtain ⟨h1, h2, h3⟩ := hx
  subst h2 h3
  exact tables_law nm num _ _ cl kl W.heap.size W (Nat.le_refl _) h1.see h1.key (by omega) (by omega) h1.num0 hg
end Go.Proofs.YtjcffcpmegpjeaaGreatDoor
