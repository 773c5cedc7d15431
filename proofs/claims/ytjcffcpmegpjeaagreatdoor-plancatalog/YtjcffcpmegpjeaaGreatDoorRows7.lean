import Derived.Test.YtjcffcpmegpjeaaGreatDoorRows5
import Derived.Deep.DrawnRows
namespace Go.Proofs.YtjcffcpmegpjeaaGreatDoor
open Go.ChangeShapes Go.WideShapes Go.ChangeAt Go.RowKit
set_option linter.unusedVariables false
set_option maxRecDepth 100000

/-- The bytes of a value in a row. -/
def rowV (v : Int × Int × ByteArray) : List Int := if v.1 = 0 then [] else if v.1 = 1 then [v.2.1] else if v.1 = 2 then uvB (svV v.2.1) else uvB v.2.2.size ++ txt v.2.2
def rowL (vs : List (Int × Int × ByteArray)) : List Int := vs.flatMap rowV
def rowAll (vs : List (Int × Int × ByteArray)) : List Int := (vs.length : Int) :: kbytes vs vs.length ((vs.length + 3) / 4) ++ rowL vs
theorem ownB.raw {w : World} {B n : Nat} {v : Value} {xs : List Int} (h : ownB w B v xs) (hl : xs.length = n) : w.ownsRow B 5 1 v n (xs.map (Value.int .u8)) := by subst hl; exact h
theorem ownB.at {w : World} {B g n cap : Nat} {xs : List Int} (h : ownB w B (.slice (some ⟨g, 0, none⟩) n cap) xs) (hl : xs.length = n) (j : Nat) (hj : j < n) : w.cell? ⟨g, j, none⟩ = some (.int .u8 (xs[j]'(by omega))) := by
  rw [(h.raw hl).cellAt j (by omega), List.getElem?_map, List.getElem?_eq_getElem (by omega)]; rfl
theorem ownB.free {w : World} {B g n cap : Nat} {xs : List Int} (h : ownB w B (.slice (some ⟨g, 0, none⟩) n cap) xs) (hl : xs.length = n) (j : Nat) : w.frozen? ⟨g, j, none⟩ = false := (h.raw hl).frozenAt j
theorem ownB.put {w : World} {B g n cap : Nat} {xs : List Int} (h : ownB w B (.slice (some ⟨g, 0, none⟩) n cap) xs) (hl : xs.length = n) (j : Nat) (c : Int) : ownB (w.setCell ⟨g, j, none⟩ (.int .u8 c)) B (.slice (some ⟨g, 0, none⟩) n cap) (xs.set j c) := by
  have h5 := ((h.raw hl).stored j (.int .u8 c)).1
  rw [← List.map_set] at h5
  unfold ownB
  rw [List.length_set, hl]
  exact h5
end Go.Proofs.YtjcffcpmegpjeaaGreatDoor

namespace Go.Proofs.YtjcffcpmegpjeaaGreatDoor
open Go.ChangeShapes Go.WideShapes Go.ChangeAt Go.RowKit
set_option linter.unusedVariables false
set_option maxRecDepth 100000

theorem rowV_len (v : Int × Int × ByteArray) (h : okV v) : (rowV v).length ≤ 5000 := by
  unfold rowV
  have h1 := uvB_len (svV v.2.1)
  have h2 := uvB_len v.2.2.size
  split
  · simp
  · split
    · simp
    · split
      · omega
      · rcases h with e | e | e | e
        · omega
        · omega
        · omega
        · rw [List.length_append, txt_len]; omega
theorem rowL_len : ∀ (vs : List (Int × Int × ByteArray)), (∀ v ∈ vs, okV v) → (rowL vs).length ≤ 5000 * vs.length
  | [], _ => by simp [rowL]
  | x :: r, h => by
    have h1 := rowV_len x (h x (by simp))
    have h2 := rowL_len r (fun v hv => h v (by simp [hv]))
    unfold rowL at h2 ⊢
    rw [List.flatMap_cons, List.length_append, List.length_cons]
    omega
theorem rowL_take (vs : List (Int × Int × ByteArray)) (k : Nat) (h : k < vs.length) : rowL (vs.take (k + 1)) = rowL (vs.take k) ++ rowV vs[k] := by
  unfold rowL
  rw [List.take_succ_eq_append_getElem h, List.flatMap_append]
  simp
/-- The number in a cell. -/
def valAt (W : World) (a : Addr) : Int := match W.cell? a with | some (.int _ y) => y | _ => 0
def RmS (n g j : Nat) (kd i : Int) (t : ByteArray) (W : World) : Prop := W.cell? ⟨n, 0, none⟩ = some (.int .i64 kd) ∧ W.cell? ⟨g, j, none⟩ = some (.int .u8 (valAt W ⟨g, j, none⟩)) ∧ W.frozen? ⟨g, j, none⟩ = false
theorem RmS.put {n g j : Nat} {kd i : Int} {t : ByteArray} {W : World} (h : RmS n g j kd i t W) (hne : g ≠ n) (c : Int) : RmS n g j kd i t (W.setCell ⟨g, j, none⟩ (.int .u8 c)) := by
  obtain ⟨h1, h2, h3⟩ := h
  have e : (W.setCell ⟨g, j, none⟩ (.int .u8 c)).cell? ⟨g, j, none⟩ = some (.int .u8 c) := by simp [go_sem, h2]
  refine ⟨?_, ?_, ?_⟩
  · rw [World.cell?_of_block (w := W) (Below.heap_setCell W ⟨g, j, none⟩ _ n (fun h => hne h.symm))]; exact h1
  · rw [e]; unfold valAt; rw [e]
  · simp [go_sem, h3]
theorem RmS.drew {n g j : Nat} {kd i : Int} {t : ByteArray} {W : World} (h : RmS n g j kd i t W) : RmS n g j kd i t W.drew := h
/-- A region ends as it should, with this act and this world. -/
def Post1 (A : Act) (W' : World) : Exit → Act → World → Prop
  | .normal, b, w' => b = A ∧ w' = W'
  | _, _, _ => False
theorem Post1.here (A : Act) (W' : World) : Post1 A W' .normal A W' := ⟨rfl, rfl⟩
theorem wp_once {P : Program} {c : Code} {Q : Exit → Act → World → Prop} {a : Act} {w : World} (h : ∃ A W', c.wp P (Post1 A W') a w ∧ Q .normal A W') : c.wp P Q a w := by
  obtain ⟨A, W', h1, h2⟩ := h
  refine Code.wp_mono ?_ h1
  intro e b w' h
  cases e <;> first | exact h.elim | (obtain ⟨rfl, rfl⟩ := h; exact h2)
theorem or_sum : ∀ (r kd : Fin 4) (x : Fin 64), x.val < 4 ^ r.val → bits .or .u8 (x.val : Int) (IntKind.u8.wrap (IntKind.u8.wrap (kd.val : Int) * 2 ^ ((r.val : Int) * 2).toNat)) = (x.val : Int) + 4 ^ r.val * (kd.val : Int) := by decide +kernel
/-- What stands in the row's slice when k values are laid. -/
def rowK (vs : List (Int × Int × ByteArray)) (nb k : Nat) : List Int := ((vs.length : Int) :: kbytes vs k nb) ++ rowL (vs.take k)
theorem kind4_in (vs : List (Int × Int × ByteArray)) (hv : ∀ v ∈ vs, okV v) (m : Nat) : 0 ≤ kind4 vs m ∧ kind4 vs m ≤ 3 := by
  unfold kind4
  by_cases h : m < vs.length
  · rw [List.getElem?_eq_getElem h]
    have := hv _ (List.getElem_mem h)
    unfold okV at this
    simp only [Option.map_some, Option.getD_some]
    omega
  · rw [List.getElem?_eq_none (by omega)]
    simp
theorem kbyte_low (vs : List (Int × Int × ByteArray)) (hv : ∀ v ∈ vs, okV v) (k : Nat) : 0 ≤ kbyte vs k (k / 4) ∧ kbyte vs k (k / 4) < 4 ^ (k % 4) := by
  have hk : k = 4 * (k / 4) + k % 4 := by omega
  generalize hj : k / 4 = j at *
  have a0 := kind4_in vs hv (4 * j)
  have a1 := kind4_in vs hv (4 * j + 1)
  have a2 := kind4_in vs hv (4 * j + 2)
  unfold kbyte
  simp only [kind4_take]
  have hm : k % 4 = 0 ∨ k % 4 = 1 ∨ k % 4 = 2 ∨ k % 4 = 3 := by omega
  rcases hm with e | e | e | e
  · rw [if_neg (by omega), if_neg (by omega), if_neg (by omega), if_neg (by omega), e]; simp
  · rw [if_pos (by omega), if_neg (by omega), if_neg (by omega), if_neg (by omega), e]; simp; omega
  · rw [if_pos (by omega), if_pos (by omega), if_neg (by omega), if_neg (by omega), e]; simp; omega
  · rw [if_pos (by omega), if_pos (by omega), if_pos (by omega), if_neg (by omega), e]; simp; omega
theorem kbyte_or (vs : List (Int × Int × ByteArray)) (hv : ∀ v ∈ vs, okV v) (k : Nat) (kd : Int) (hkd : kind4 vs k = kd) :
    bits .or .u8 (kbyte vs k (k / 4)) (IntKind.u8.wrap (IntKind.u8.wrap kd * 2 ^ (((k : Int) % 4) * 2).toNat)) = kbyte vs k (k / 4) + 4 ^ (k % 4) * kind4 vs k := by
  have h1 := kbyte_low vs hv k
  have h2 := kind4_in vs hv k
  rw [hkd] at h2 ⊢
  have h3 : (4 : Int) ^ (k % 4) ≤ 64 := by
    have hm : k % 4 = 0 ∨ k % 4 = 1 ∨ k % 4 = 2 ∨ k % 4 = 3 := by omega
    rcases hm with e | e | e | e <;> rw [e] <;> decide
  generalize kbyte vs k (k / 4) = x at *
  have hx : x.toNat < 4 ^ (k % 4) := by
    have e : ((4 ^ (k % 4) : Nat) : Int) = (4 : Int) ^ (k % 4) := by simp
    omega
  have e1 : ((x.toNat : Nat) : Int) = x := by omega
  have e2 : ((kd.toNat : Nat) : Int) = kd := by omega
  have e3 : ((k % 4 : Nat) : Int) = (k : Int) % 4 := by omega
  have := or_sum ⟨k % 4, by omega⟩ ⟨kd.toNat, by omega⟩ ⟨x.toNat, by omega⟩ hx
  simp only [e1, e2, e3] at this
  exact this
theorem CkS.put {w W : World} {B n g : Nat} {kd i : Int} {t : ByteArray} (h : CkS w B n kd i t W) (hg : B ≤ g) (hne : g ≠ n) (j : Nat) (c : Value) : CkS w B n kd i t (W.setCell ⟨g, j, none⟩ c) := by
  obtain ⟨⟨h1, h2, h3⟩, c0, c1, c2⟩ := h
  have e : ∀ m, (W.setCell ⟨g, j, none⟩ c).cell? ⟨n, m, none⟩ = W.cell? ⟨n, m, none⟩ := fun m => World.cell?_of_block (w := W) (Below.heap_setCell W ⟨g, j, none⟩ _ n (fun h => hne h.symm))
  have hs : (W.setCell ⟨g, j, none⟩ c).heap.size = W.heap.size := by simp
  exact ⟨⟨h1.setCell hg _, by omega, by omega⟩, (e 0).trans c0, (e 1).trans c1, (e 2).trans c2⟩
theorem kyS_row {w W : World} {B n : Nat} {kd i : Int} {t : ByteArray} {f : FuncId} {args : Array Value} {c : Value} {ys : List Int} (h : CkS w B n kd i t W) (hne : some n ≠ c.ownBlock) (hc : Calls Tryz.prog f args W fun e w' => ∃ b', e = .returned b' ∧ ownB w' B b' ys ∧ Below B W w' ∧ ∀ k, k < W.heap.size → some k ≠ c.ownBlock → w'.heap[k]? = W.heap[k]?) :
    Calls Tryz.prog f args W fun e w' => ∃ b', e = .returned b' ∧ CkS w B n kd i t w' ∧ ownB w' B b' ys := by
  refine hc.mono fun e w' h2 => ?_
  obtain ⟨b', he, ho, hb, hg⟩ := h2
  obtain ⟨⟨h1, h2, h3⟩, c0, c1, c2⟩ := h
  have hz := hb.size
  have e : ∀ m, w'.cell? ⟨n, m, none⟩ = W.cell? ⟨n, m, none⟩ := fun m => World.cell?_of_block (w := W) (hg n h3 hne)
  exact ⟨b', he, ⟨⟨h1.trans hb, by omega, by omega⟩, (e 0).trans c0, (e 1).trans c1, (e 2).trans c2⟩, ho⟩
theorem far_of {f : FuncId} {args : Array Value} {W : World} {B : Nat} {c : Value} {ys : List Int} (hc : Calls Tryz.prog f args W fun e w' => ∃ b', e = .returned b' ∧ ownB w' B b' ys ∧ Below B W w' ∧ Gr c W b' w') :
    Calls Tryz.prog f args W fun e w' => ∃ b', e = .returned b' ∧ ownB w' B b' ys ∧ Below B W w' ∧ ∀ k, k < W.heap.size → some k ≠ c.ownBlock → w'.heap[k]? = W.heap[k]? :=
  hc.mono fun _ _ ⟨b', h1, h2, h3, h4⟩ => ⟨b', h1, h2, h3, h4.far⟩
def rowM (vs : List (Int × Int × ByteArray)) (nb k : Nat) : List Int := ((vs.length : Int) :: kbytes vs (k + 1) nb) ++ rowL (vs.take k)
theorem rowK_set (vs : List (Int × Int × ByteArray)) (hv : ∀ v ∈ vs, okV v) (nb k : Nat) (hk : k / 4 < nb) (kd : Int) (hkd : kind4 vs k = kd) :
    (rowK vs nb k).set (1 + k / 4) (bits .or .u8 (kbyte vs k (k / 4)) (IntKind.u8.wrap (IntKind.u8.wrap kd * 2 ^ (((k : Int) % 4) * 2).toNat))) = rowM vs nb k := by
  rw [kbyte_or vs hv k kd hkd]
  unfold rowK rowM
  rw [List.set_append_left _ _ (by rw [List.length_cons, kbytes_len]; omega), Nat.add_comm 1, List.set_cons_succ, kbytes_next vs k nb hk]
theorem rowM_len (vs : List (Int × Int × ByteArray)) (nb k : Nat) : (rowM vs nb k).length = (rowK vs nb k).length := by
  unfold rowM rowK
  simp only [List.length_append, List.length_cons, kbytes_len]
theorem rowM_next (vs : List (Int × Int × ByteArray)) (nb k : Nat) (h : k < vs.length) : rowM vs nb k ++ rowV vs[k] = rowK vs nb (k + 1) := by
  unfold rowM rowK
  rw [rowL_take vs k h, List.append_assoc]
attribute [local go_sem ↓] Go.wp_at_zero Go.wp_at_succ
attribute [local go_sem] fld0_3 fld1_3 fld2_3 fld3_3
set_option maxRecDepth 100000 in
set_option maxHeartbeats 3200000 in
theorem rowG (a : Value) (vs : List (Int × Int × ByteArray)) (B : Nat) (w : World) (hB : B ≤ w.heap.size) (ha : SeesV w B a vs) (hv : ∀ v ∈ vs, v.2.2.size ≤ 9223372036854775807 ∧ -9223372036854775808 ≤ v.2.1 ∧ v.2.1 ≤ 9223372036854775807) :
    Calls Tryz.prog 51 #[a] w fun e w' => e = .returned (if 16 < vs.length then .tuple #[.string ⟨#[]⟩, .int .i64 18] else if faultL vs = 0 then .tuple #[.string (strOfNums (rowAll vs)), .int .i64 0] else .tuple #[.string ⟨#[]⟩, .int .i64 (faultL vs)]) ∧ Below B w w' := by
  have hC := check_any a vs B w hB ha (fun v h => (hv v h).1)
  have HA0 : Hid (SeesV w B a vs) := ha
  obtain ⟨ao, cap, rfl, hl1, hc1, hs1⟩ := ha
  clear hs1
  by_cases hm : 16 < vs.length
  · rw [if_pos hm] at hC ⊢
    go_enter Tryz.func51, Tryz.ntmps51
    go_wp2_with fail
    refine hC.mono ?_
    rintro e w1 ⟨rfl, hb1⟩
    have HB1 : Hid (Below B w w1) := hb1
    clear hb1 HA0 hC
    go_wp2
    go_ret2
    exact ⟨rfl, HB1.out⟩
  rw [if_neg hm] at hC ⊢
  by_cases hf : faultL vs = 0
  · rw [if_pos hf]
    rw [hf] at hC
    go_enter Tryz.func51, Tryz.ntmps51
    go_wp2_with fail
    refine hC.mono ?_
    rintro e w1 ⟨rfl, hb1⟩
    have HA := HA0.out.later hb1
    have HB1 : Hid (Below B w w1) := hb1
    have hB1 : B ≤ w1.heap.size := by have := hb1.size; omega
    clear hb1 HA0 hC
    obtain ⟨ao', cap', e', hl1', hc1', hs1⟩ := HA
    simp only [Value.slice.injEq, true_and] at e'
    obtain ⟨rfl, rfl⟩ := e'
    have HA2 : Hid _ := hs1
    clear hs1
    have hok := faultL_zero vs hf
    have hnb : (vs.length + 3) / 4 ≤ 4 := by omega
    obtain ⟨i0, hi, hz0, hz1, hz2⟩ := info_parts infoB
    obtain ⟨w2, hmk, hown, hgrow⟩ := run_make_full (P := Tryz.prog) w1 B 72 5 i0 (.int .u8 0) 1 Tryz.underlying72 hi hz0 hz1 .i64 .i64 (1 + (vs.length + 3) / 4) (by rw [hz2]; omega) (by unfold maxLen; omega) hB1
    have hO : ownB w2 B (.slice (some ⟨w1.heap.size, 0, none⟩) (1 + (vs.length + 3) / 4) (1 + (vs.length + 3) / 4)) (List.replicate (1 + (vs.length + 3) / 4) 0) := by
      rw [Nat.mul_one, show (Value.int .u8 0).cells = #[.int .u8 0] from rfl, toList_madeCells_one] at hown
      unfold ownB
      rw [List.length_replicate, List.map_replicate]
      exact hown
    have HO : Hid (ownB w2 B (.slice (some ⟨w1.heap.size, 0, none⟩) (1 + (vs.length + 3) / 4) (1 + (vs.length + 3) / 4)) (List.replicate (1 + (vs.length + 3) / 4) 0)) := hO
    have HB2 : Hid (Below B w w2) := HB1.out.grown hgrow hB1 (fun k hk => by cases hk)
    clear hown hgrow hO hi hz0 hz1 hz2
    generalize hN : (vs.length + 3) / 4 = nb at *
    have hmk2 : (Instr.makeSlice 72 (.int .i64 (1 + (nb : Int))) (.int .i64 (1 + (nb : Int)))).run Tryz.prog w1 = .ok (.slice (some ⟨w1.heap.size, 0, none⟩) (1 + nb) (1 + nb)) w2 := by have h8 := hmk; rw [show ((1 + nb : Nat) : Int) = 1 + (nb : Int) from by omega] at h8; exact h8
    have hl16 : (vs.length : Int) ≤ 16 := by omega
    have hcz : w2.cell? ⟨w1.heap.size, 0, none⟩ = some (.int .u8 0) := by rw [HO.out.at (by simp) 0 (by omega)]; simp
    have hfz : w2.frozen? ⟨w1.heap.size, 0, none⟩ = false := HO.out.free (by simp) 0
    have HO3 : Hid (ownB (w2.setCell ⟨w1.heap.size, 0, none⟩ (.int .u8 (vs.length : Int))) B (.slice (some ⟨w1.heap.size, 0, none⟩) (1 + nb) (1 + nb)) ((vs.length : Int) :: kbytes vs 0 nb)) := by
      have h7 := HO.out.put (by simp) 0 (vs.length : Int)
      rw [Nat.add_comm 1 nb, List.replicate_succ, List.set_cons_zero, ← kbytes_zero vs nb] at h7
      rw [Nat.add_comm 1 nb]
      exact h7
    have HB3 : Hid (Below B w (w2.setCell ⟨w1.heap.size, 0, none⟩ (.int .u8 (vs.length : Int)))) := HB2.out.setCell hB1 _
    clear hmk HO HB2
    go_wp2_with (go_at_call 80; refine (kindBytes_any vs.length _ (by omega)).mono ?_; rintro e w3 ⟨rfl, rfl⟩; rw [hN])
    go_loopw [5, 25] (fun c i wr => ∃ k : Nat, k ≤ vs.length ∧ i = .int .i64 k ∧ ownB wr B c (rowK vs nb k) ∧ Below B w wr) (fun _ i _ => vs.length - (intOf i).toNat)
    case atStart => exact ⟨0, by omega, rfl, by have := HO3.out; simpa [rowK, rowL] using this, HB3.out⟩
    case round =>
      obtain ⟨k, hk, rfl, hown, hbel⟩ := hrel
      have hxl : (rowK vs nb k).length ≤ 140737488330000 := by
        have h3 := rowL_len (vs.take k) (fun v hv => hok v (List.mem_of_mem_take hv))
        have h4 : (vs.take k).length ≤ 16 := by rw [List.length_take]; omega
        unfold rowK
        rw [List.length_append, List.length_cons, kbytes_len]
        omega
      have hlb : 1 + nb ≤ (rowK vs nb k).length := by unfold rowK; rw [List.length_append, List.length_cons, kbytes_len]; omega
      obtain ⟨g, cp, rfl⟩ := hown.form (by intro h; rw [h] at hlb; simp at hlb)
      have HO : Hid (ownB wr B (.slice (some ⟨g, 0, none⟩) (rowK vs nb k).length cp) (rowK vs nb k)) := hown
      have HBl : Hid (Below B w wr) := hbel
      have hBr : B ≤ wr.heap.size := by have := hbel.size; have := HB1.out.size; omega
      have hg := World.ownsRow.lt hown g rfl
      clear hown hbel
      by_cases h1 : k < vs.length
      · obtain ⟨b1, o1, e1, hb1, x0, x1, x2⟩ := HA2.out k h1
        have y0 := (HBl.out.cell (p := ⟨b1, o1 + k * 3, none⟩) hb1).trans ((HB1.out.cell (p := ⟨b1, o1 + k * 3, none⟩) hb1).symm.trans x0)
        have y1 := (HBl.out.cell (p := ⟨b1, o1 + k * 3 + 1, none⟩) hb1).trans ((HB1.out.cell (p := ⟨b1, o1 + k * 3 + 1, none⟩) hb1).symm.trans x1)
        have y2 := (HBl.out.cell (p := ⟨b1, o1 + k * 3 + 2, none⟩) hb1).trans ((HB1.out.cell (p := ⟨b1, o1 + k * 3 + 2, none⟩) hb1).symm.trans x2)
        clear x0 x1 x2
        subst e1
        have hvs := hv _ (List.getElem_mem h1)
        have hvo := hok _ (List.getElem_mem h1)
        have hk4 : k / 4 < nb := by omega
        have hgx : wr.cell? ⟨g, 1 + k / 4, none⟩ = some (.int .u8 (kbyte vs k (k / 4))) := by
          rw [HO.out.at rfl (1 + k / 4) (by omega)]
          congr 2
          unfold rowK
          rw [List.getElem_append_left (by rw [List.length_cons, kbytes_len]; omega)]
          simp only [Nat.add_comm 1 (k / 4), List.getElem_cons_succ]
          simp [kbytes]
        have hgf : wr.frozen? ⟨g, 1 + k / 4, none⟩ = false := HO.out.free rfl _
        have hn1 : b1 < wr.heap.size := by omega
        generalize hvk : vs[k] = v at *
        obtain ⟨kd, i, t⟩ := v
        simp only at y0 y1 y2 hvs
        go_wp2_with fail
        have i0 : (0 : Int) ≤ (k : Int) := by omega
        have i1 : (0 : Int) ≤ 1 + (k : Int) / 4 := by omega
        have i2 : 1 + (k : Int) / 4 < ((rowK vs nb k).length : Int) := by omega
        have i3 : (k : Int) / 4 ≤ 4 := by omega
        have c0 : (wr.alloc (.cells #[.int .i64 kd, .int .i64 i, .string t] 59)).cell? ⟨wr.heap.size, 0, none⟩ = some (.int .i64 kd) := by simp [go_sem]
        have hgx2 : (wr.alloc (.cells #[.int .i64 kd, .int .i64 i, .string t] 59)).cell? ⟨g, 1 + k / 4, none⟩ = some (.int .u8 (kbyte vs k (k / 4))) := by rw [World.cell?_of_block (w := wr) (Below.heap_alloc wr _ g hg.2)]; exact hgx
        have hgf2 : (wr.alloc (.cells #[.int .i64 kd, .int .i64 i, .string t] 59)).frozen? ⟨g, 1 + k / 4, none⟩ = false := by rw [World.frozen?_of_block (w := wr) (Below.heap_alloc wr _ g hg.2)]; exact hgf
        have HS0 : Hid (CkS w B wr.heap.size kd i t (wr.alloc (.cells #[.int .i64 kd, .int .i64 i, .string t] 59))) := CkS.new kd i t HBl.out hBr
        have HOW : Hid (ownB (wr.alloc (.cells #[.int .i64 kd, .int .i64 i, .string t] 59)) B (.slice (some ⟨g, 0, none⟩) (rowK vs nb k).length cp) (rowK vs nb k)) := HO.out.alloc _
        have hkd : kind4 vs k = kd := by unfold kind4; rw [List.getElem?_eq_getElem h1, hvk]; rfl
        generalize wr.alloc (.cells #[.int .i64 kd, .int .i64 i, .string t] 59) = W at *
        have HX0 : Hid (valAt W ⟨g, 1 + k / 4, none⟩ = kbyte vs k (k / 4)) := by show _ = _; unfold valAt; rw [hgx2]
        have hgx3 : W.drew.cell? ⟨g, 1 + k / 4, none⟩ = some (.int .u8 (kbyte vs k (k / 4))) := hgx2
        have hgf3 : W.drew.frozen? ⟨g, 1 + k / 4, none⟩ = false := hgf2
        generalize hnn : wr.heap.size = n at *
        have hw1 : IntKind.i64.wrap ((k : Int) / 4) = (k : Int) / 4 := by rw [IntKind.wrap_i64]; omega
        have hw2 : IntKind.i64.wrap (1 + (k : Int) / 4) = 1 + (k : Int) / 4 := by rw [IntKind.wrap_i64]; omega
        have hw3 : (1 + (k : Int) / 4).toNat = 1 + k / 4 := by omega
        have hw4 : (k : Int).tdiv 4 = (k : Int) / 4 := Int.tdiv_eq_ediv_of_nonneg (by omega)
        have hgn : g ≠ n := by omega
        have hS0 : RmS n g (1 + k / 4) kd i t W := ⟨c0, by unfold valAt; rw [hgx2], hgf2⟩
        obtain ⟨r0, r1, r2⟩ := id hS0
        clear hgx3 hgf3 hgx2 hgf2 hgx hgf
        generalize hxx : valAt W ⟨g, 1 + k / 4, none⟩ = x at *
        clear hS0
        refine wp_once ?_
        apply Exists.intro
        apply Exists.intro
        constructor
        · go_region_with (first | (go_at_call 81; refine (kindShift_any k _ (by omega)).mono ?_; rintro e w' ⟨rfl, rfl⟩))
          all_goals exact Post1.here _ _
        have hs1 : CkS w B n kd i t (W.setCell ⟨g, 1 + k / 4, none⟩ (.int .u8 (bits .or .u8 x (IntKind.u8.wrap (IntKind.u8.wrap kd * 2 ^ (((k : Int) % 4) * 2).toNat))))).drew := (HS0.out.put hg.1 hgn _ _).drew
        have HO1 : Hid (ownB (W.setCell ⟨g, 1 + k / 4, none⟩ (.int .u8 (bits .or .u8 x (IntKind.u8.wrap (IntKind.u8.wrap kd * 2 ^ (((k : Int) % 4) * 2).toNat))))).drew B (.slice (some ⟨g, 0, none⟩) (rowK vs nb k).length cp) (rowM vs nb k)) := by
          have h7 := (HOW.out.put rfl (1 + k / 4) (bits .or .u8 x (IntKind.u8.wrap (IntKind.u8.wrap kd * 2 ^ (((k : Int) % 4) * 2).toNat)))).drew
          rw [HX0.out, rowK_set vs hok nb k hk4 kd hkd] at h7
          rw [HX0.out]
          exact h7
        have c0 := hs1.2.1
        have c1 := hs1.2.2.1
        have c2 := hs1.2.2.2
        have hne : some n ≠ Value.ownBlock (.slice (some ⟨g, 0, none⟩) (rowK vs nb k).length cp) := fun h => hgn (Option.some.inj h).symm
        have HK : Hid (rowM vs nb k ++ rowV (kd, i, t) = rowK vs nb (k + 1)) := by have h7 := rowM_next vs nb k h1; rw [hvk] at h7; exact h7
        have hxm : (rowM vs nb k).length ≤ 140737488330000 := by rw [rowM_len]; exact hxl
        clear HX0 HS0 HOW r0 r1 r2 hxx hw1 hw2 hw3 hw4 i0 i1 i2 i3 hvk hkd y0 y1 y2 hn1 HO
        generalize (W.setCell ⟨g, 1 + k / 4, none⟩ (.int .u8 (bits .or .u8 x (IntKind.u8.wrap (IntKind.u8.wrap kd * 2 ^ (((k : Int) % 4) * 2).toNat))))).drew = W1 at *
        generalize hys : rowM vs nb k = ys at *
        unfold okV at hvo
        simp only at hvo
        obtain ⟨hv1, hv2, hv3⟩ := hvs
        rcases hvo with rfl | ⟨rfl, hv4, hv5⟩ | rfl | ⟨rfl, hv4⟩
        · go_wp2_with fail
          go_region_held3 (fun W' => CkS w B n 0 i t W' ∧ W'.cell? ⟨n, 0, none⟩ = some (.int .i64 0) ∧ W'.cell? ⟨n, 1, none⟩ = some (.int .i64 i) ∧ W'.cell? ⟨n, 2, none⟩ = some (.string t)) (first | assumption | exact CkS.keep (by assumption) | exact CkS.keep (CkS.drew (by assumption)) | exact CkS.keep (CkS.drew (And.left (by assumption)))) (first | (go_at_call 82; refine (kyS_lay (by first | assumption | exact And.left (by assumption)) (by first | exact HO1.out | exact HO1.out.drew) (layE_0 _)).mono ?_; rintro e w' ⟨rfl, hSx, hOx⟩) | (go_at_call 122; refine (kyS_row (by first | assumption | exact And.left (by assumption)) hne (far_of (row0 _ ys (0, i, t) B _ (CkS.le (by first | assumption | exact And.left (by assumption))) (by first | exact hOx | exact hOx.drew) (Nat.le_trans hxm (by omega))))).mono ?_; rintro e w' ⟨b2, rfl, hSy, hOy⟩))
          have HB3 : Hid (Below B w _) := hSy.1.1
          have HO3 : Hid (ownB _ B b2 (ys ++ _)) := hOy
          clear hSx hSy hOx hOy HO1 hs1 c0 c1 c2
          go_wp2
          go_roundw
          case rel => exact ⟨k + 1, by omega, by go_num, by rw [← HK.out]; exact HO3.out, HB3.out⟩
          case measure => simp [intOf]; omega
        · go_wp2_with fail
          go_region_held3 (fun W' => CkS w B n 1 i t W' ∧ W'.cell? ⟨n, 0, none⟩ = some (.int .i64 1) ∧ W'.cell? ⟨n, 1, none⟩ = some (.int .i64 i) ∧ W'.cell? ⟨n, 2, none⟩ = some (.string t)) (first | assumption | exact CkS.keep (by assumption) | exact CkS.keep (CkS.drew (by assumption)) | exact CkS.keep (CkS.drew (And.left (by assumption)))) (first | (go_at_call 82; refine (kyS_lay (by first | assumption | exact And.left (by assumption)) (by first | exact HO1.out | exact HO1.out.drew) (layE_1 _)).mono ?_; rintro e w' ⟨rfl, hSx, hOx⟩) | (go_at_call 127; refine (kyS_row (by first | assumption | exact And.left (by assumption)) hne (far_of (row1 _ ys (1, i, t) B _ (CkS.le (by first | assumption | exact And.left (by assumption))) (by first | exact hOx | exact hOx.drew) (Nat.le_trans hxm (by omega)) hv4 hv5))).mono ?_; rintro e w' ⟨b2, rfl, hSy, hOy⟩))
          have HB3 : Hid (Below B w _) := hSy.1.1
          have HO3 : Hid (ownB _ B b2 (ys ++ _)) := hOy
          clear hSx hSy hOx hOy HO1 hs1 c0 c1 c2
          go_wp2
          go_roundw
          case rel => exact ⟨k + 1, by omega, by go_num, by rw [← HK.out]; exact HO3.out, HB3.out⟩
          case measure => simp [intOf]; omega
        · go_wp2_with fail
          go_region_held3 (fun W' => CkS w B n 2 i t W' ∧ W'.cell? ⟨n, 0, none⟩ = some (.int .i64 2) ∧ W'.cell? ⟨n, 1, none⟩ = some (.int .i64 i) ∧ W'.cell? ⟨n, 2, none⟩ = some (.string t)) (first | assumption | exact CkS.keep (by assumption) | exact CkS.keep (CkS.drew (by assumption)) | exact CkS.keep (CkS.drew (And.left (by assumption)))) (first | (go_at_call 82; refine (kyS_lay (by first | assumption | exact And.left (by assumption)) (by first | exact HO1.out | exact HO1.out.drew) (layE_2 _)).mono ?_; rintro e w' ⟨rfl, hSx, hOx⟩) | (go_at_call 132; refine (kyS_row (by first | assumption | exact And.left (by assumption)) hne (far_of (row2 _ ys (2, i, t) B _ (CkS.le (by first | assumption | exact And.left (by assumption))) (by first | exact hOx | exact hOx.drew) (Nat.le_trans hxm (by omega)) hv2 hv3))).mono ?_; rintro e w' ⟨b2, rfl, hSy, hOy⟩))
          have HB3 : Hid (Below B w _) := hSy.1.1
          have HO3 : Hid (ownB _ B b2 (ys ++ _)) := hOy
          clear hSx hSy hOx hOy HO1 hs1 c0 c1 c2
          go_wp2
          go_roundw
          case rel => exact ⟨k + 1, by omega, by go_num, by rw [← HK.out]; exact HO3.out, HB3.out⟩
          case measure => simp [intOf]; omega
        · go_wp2_with fail
          go_region_held3 (fun W' => CkS w B n 3 i t W' ∧ W'.cell? ⟨n, 0, none⟩ = some (.int .i64 3) ∧ W'.cell? ⟨n, 1, none⟩ = some (.int .i64 i) ∧ W'.cell? ⟨n, 2, none⟩ = some (.string t)) (first | assumption | exact CkS.keep (by assumption) | exact CkS.keep (CkS.drew (by assumption)) | exact CkS.keep (CkS.drew (And.left (by assumption)))) (first | (go_at_call 82; refine (kyS_lay (by first | assumption | exact And.left (by assumption)) (by first | exact HO1.out | exact HO1.out.drew) (layE_3 _)).mono ?_; rintro e w' ⟨rfl, hSx, hOx⟩) | (go_at_call 137; refine (kyS_row (by first | assumption | exact And.left (by assumption)) hne (row3 _ ys (3, i, t) B _ (CkS.le (by first | assumption | exact And.left (by assumption))) (by first | exact hOx | exact hOx.drew) (Nat.le_trans hxm (by omega)) hv4)).mono ?_; rintro e w' ⟨b2, rfl, hSy, hOy⟩))
          have HB3 : Hid (Below B w _) := hSy.1.1
          have HO3 : Hid (ownB _ B b2 (ys ++ _)) := hOy
          clear hSx hSy hOx hOy HO1 hs1 c0 c1 c2
          go_wp2
          go_roundw
          case rel => exact ⟨k + 1, by omega, by go_num, by rw [← HK.out]; exact HO3.out, HB3.out⟩
          case measure => simp [intOf]; omega
      · have hke : rowK vs nb k = rowAll vs := by
          have e : k = vs.length := by omega
          unfold rowK rowAll
          rw [e, List.take_length, hN]
        rw [hke] at HO
        have hcv := HO.out.conv
        go_wp2
        go_ret2
        exact ⟨rfl, HBl.out⟩
  · rw [if_neg hf]
    generalize faultL vs = c at *
    have hcc : (c != 0) = true := by simpa using hf
    go_enter Tryz.func51, Tryz.ntmps51
    go_wp2_with fail
    refine hC.mono ?_
    rintro e w1 ⟨rfl, hb1⟩
    have HB1 : Hid (Below B w w1) := hb1
    clear hb1 HA0 hC
    go_wp2
    go_ret2
    exact ⟨rfl, HB1.out⟩
end Go.Proofs.YtjcffcpmegpjeaaGreatDoor
