import Derived.Test.YtfofionocnbohaaDoorLkO
import Derived.Test.YtfofionocnbohaaDoorShelf
import Derived.Lib.OthersKept
namespace Go.Proofs.YtfofionocnbohaaDoor
open Go.ChangeShapes Go.WideShapes Go.ChangeAt Go.RowKit
set_option linter.unusedVariables false
set_option maxRecDepth 100000
theorem infoR : (Tryd.prog.info? 21).map (fun i => (i.zero, i.size, i.bytes)) = some (some (.int .i32 0), 1, 4) := by kernel_rfl
/-- The slice value v holds just the runes xs, in a row of the call's own. -/
def ownR (w : World) (B : Nat) (v : Value) (xs : List Int) : Prop := w.ownsRow B 21 1 v xs.length (xs.map (Value.int .i32))
theorem ownR_nil (w : World) (B : Nat) : ownR w B (.slice none 0 0) [] := World.ownsRow_nil _ _ _ _
theorem app_rune {wr : World} {ops : Array Oper} {rest : List Oper} {o : Oper} {a : Act} {Q : Exit → Act → World → Prop} (hgd : o.guard = none) (s x : Operand)
    (ho : o.op = .call { callee := .builtin .append, args := #[s, x], argTypes := #[26, 26] })
    (B : Nat) (v : Value) (xs : List Int) (c : Int) (hown : ownR wr B v xs) (hs : a.eval s = v) (g : Nat) (hg : g = wr.heap.size) (hx : a.eval x = .slice (some ⟨g, 0, none⟩) 1 1)
    (hlen : (xs.length + 1) * 4 ≤ 140737488355328) (hB : B ≤ wr.heap.size)
    (h : ∀ v' w', ownR w' B v' (xs ++ [c]) → Below B wr w' → wpList Tryd.prog ops Q rest (a.put o.dst v') w') :
    wpList Tryd.prog ops Q (o :: rest) a (wr.alloc (.cells #[.int .i32 c] 21)) := by
  subst hg
  obtain ⟨i0, hi, hz0, hz1, hz2⟩ := info_parts infoR
  refine wpList_append_own _ hgd s x 26 ho B 21 i0 (.int .i32 0) 1 4 Tryd.underlying26 hi hz0 hz1 hz2 rfl (by decide) v xs.length _ hs (World.ownsRow.alloc hown _)
    ⟨wr.heap.size, 0, none⟩ 1 1 [.int .i32 c] hx rfl ?_ ?_ (by unfold maxLen; omega) (by omega) (by simp; omega) ?_
  · intro j u hj
    match j, hj with
    | 0, hj => simp at hj; subst hj; simp [Addr.add]
  · intro u hu; simp at hu; subst hu; rfl
  · intro v' w' hown' hgrow _
    refine h v' w' ?_ ?_
    · have : (xs ++ [c]).length = xs.length + 1 := by simp
      unfold ownR; rw [this, List.map_append]; exact hown'
    · exact ((Below.refl _ _).alloc hB _).grown hgrow (by simp; omega) (fun k hk => (World.ownsRow.lt hown k hk).1)
theorem ownR.iter {w : World} {B : Nat} {v : Value} {xs : List Int} (h : ownR w B v xs) {k : Nat} (hk : k < B) (s : ByteArray) (p : Nat) : ownR (w.iterAt k s p) B v xs := by
  refine ⟨h.1, ?_⟩
  rcases h.2 with h1 | ⟨g, cap, cur, rfl, h1, h2, h3⟩
  · exact Or.inl h1
  · exact Or.inr ⟨g, cap, cur, rfl, h1, (Lib.iterAt_other w k g s p (by omega)).trans h2, h3⟩
/-- EF BF BD at the begin of a text. -/
theorem pre_fffd (l : List UInt8) : Lib.hasPrefix l [239, 191, 189] = decide (gB l 0 = 239 ∧ gB l 1 = 191 ∧ gB l 2 = 189) := by
  have hx : ∀ (x y : UInt8), x = y ↔ x.toNat = y.toNat := fun x y => UInt8.toNat_inj.symm
  unfold Lib.hasPrefix
  match l with
  | [] => rfl
  | [x] => simp [gB, List.isPrefixOf]
  | [x, y] => simp [gB, List.isPrefixOf]
  | x :: y :: z :: l =>
    rw [Bool.eq_iff_iff, decide_eq_true_iff]
    simp only [List.isPrefixOf, Bool.and_eq_true, beq_iff_eq, Bool.and_true]
    rw [hx, hx 191, hx 189]
    show _ ↔ x.toNat = 239 ∧ y.toNat = 191 ∧ z.toNat = 189
    constructor
    · rintro ⟨h1, h2, h3⟩
      exact ⟨h1.symm, h2.symm, h3.symm⟩
    · rintro ⟨h1, h2, h3⟩
      exact ⟨h1.symm, h2.symm, h3.symm⟩
theorem drop_list (s : ByteArray) (p : Nat) : (s.extract p s.size).data.toList = s.data.toList.drop p := by
  rw [ByteArray.data_extract, Array.toList_extract, List.extract_eq_take_drop, List.take_of_length_le]
  rw [List.length_drop, Array.length_toList]
  show s.size - p ≤ s.size - p
  omega
theorem gB0 (s : ByteArray) (p : Nat) (h : p < s.size) : gB (s.data.toList.drop p) 0 = s[p].toNat := by
  refine gB_some ?_
  rw [List.getElem?_drop, Nat.add_zero, Array.getElem?_toList]
  show s.data[p]? = some s.data[p]
  rw [Array.getElem?_eq_getElem]
/-- The characters from the place p on. -/
def chAt (s : ByteArray) (p : Nat) : List Int := chL (s.data.toList.drop p)
theorem chAt_next (s : ByteArray) (p : Nat) (h : p < s.size) : chAt s p = cdL (s.data.toList.drop p) :: chAt s (p + (Utf8.decode s p).2) := by
  unfold chAt
  rw [chL_cons (by intro e; have := congrArg List.length e; rw [List.length_drop, Array.length_toList] at this; have h' : p < s.data.size := h; simp at this; omega), (decode_list s p).1, List.drop_drop]
theorem chAt_end (s : ByteArray) (p : Nat) (h : ¬ p < s.size) : chAt s p = [] := by
  unfold chAt
  rw [List.drop_eq_nil_of_le (by rw [Array.length_toList]; exact Nat.le_of_not_lt h), chL_nil]
set_option maxHeartbeats 4000000 in
theorem chT (s : ByteArray) (w : World) (hs : s.size ≤ 1099511627776) :
    Calls Tryd.prog 8 #[.string s] w fun e w' => ∃ v, e = .returned v ∧ SeesG (Value.int .i32) w' w'.heap.size v (chL s.data.toList) ∧ Below w.heap.size w w' := by
  go_enter Tryd.func8, Tryd.ntmps8
  go_wp2
  go_loopw [3, 4, 5] (fun l _ _ wr => ∃ (p : Nat) (acc : List Int), ownR wr (w.heap.size + 1) l acc ∧ wr.heap[w.heap.size]? = some (.stringIter s p) ∧ Below w.heap.size w wr ∧ acc ++ chAt s p = chL s.data.toList ∧ acc.length ≤ p ∧ p ≤ s.size) (fun _ _ _ wr => s.size - wr.iterPos w.heap.size)
  case atStart =>
    refine ⟨0, [], ownR_nil _ _, World.iter_heap w s 0, (Below.refl _ w).alloc (Nat.le_refl _) _, rfl, by simp, by omega⟩
  case round =>
    obtain ⟨p, acc, hown, hit, hbel, hacc, hal, hps⟩ := hrel
    have hsz : w.heap.size < wr.heap.size := (Array.getElem?_eq_some_iff.1 hit).1
    by_cases hp : p < s.size
    · have hnx : ∀ ty, (Instr.next (.pointer (some ⟨w.heap.size, 0, none⟩)) true ty).run Tryd.prog wr = _ := fun ty => Lib.run_next_any_at wr w.heap.size s p ty hit hp
      obtain ⟨hd0, hd1, hd2, hd3⟩ := decode_list s p
      have hw := wdL_pos (s.data.toList.drop p)
      have hwl : p + (Utf8.decode s p).2 ≤ s.size := by
        rw [hd0]
        have h1 := wdL_le (l := s.data.toList.drop p) (by intro e; have := congrArg List.length e; rw [List.length_drop, Array.length_toList] at this; have h' : p < s.data.size := hp; simp at this; omega)
        rw [List.length_drop, Array.length_toList] at h1
        have h' : p < s.data.size := hp
        have h2 : s.data.size = s.size := rfl
        omega
      have HA : Hid (acc ++ cdL (s.data.toList.drop p) :: chAt s (p + (Utf8.decode s p).2) = chL s.data.toList) := by rw [← chAt_next s p hp]; exact hacc
      have hg0 := gB0 s p hp
      have hb8 : s[p].toNat < 256 := s[p].toNat_lt
      have hp1 : 1 ≤ (Utf8.decode s p).2 := by rw [hd0]; exact hw.1
      have HIT : Hid _ := Lib.iterAt_heap wr w.heap.size s p (p + (Utf8.decode s p).2) hit
      have HO : Hid _ := hown.iter (Nat.lt_succ_self _) s (p + (Utf8.decode s p).2)
      have HB : Hid _ := Lib.below_iterAt hbel (Nat.le_refl _) s (p + (Utf8.decode s p).2)
      have hsz2 : w.heap.size + 1 ≤ (wr.iterAt w.heap.size s (p + (Utf8.decode s p).2)).heap.size := by rw [Lib.iterAt_size]; omega
      generalize Utf8.decode s p = D at *
      obtain ⟨r, n⟩ := D
      dsimp only at *
      generalize cdL (s.data.toList.drop p) = c at *
      have HIT0 : Hid _ := hit
      clear hown hbel hacc hd0 hit
      by_cases hr : r = 65533
      · by_cases hf : gB (s.data.toList.drop p) 0 = 239 ∧ gB (s.data.toList.drop p) 1 = 191 ∧ gB (s.data.toList.drop p) 2 = 189
        · have hc : c = ((65533 : Nat) : Int) := by rw [hd2 (fun h => h.2 hf), hr]
          subst hc hr
          clear hd1 hd2 hg0
          go_wp2_with fail
          refine (Tryd.strings_HasPrefix (s.extract p s.size) ⟨#[239, 191, 189]⟩ _).mono ?_
          rintro e w1 ⟨rfl, rfl⟩
          rw [drop_list, show (ByteArray.mk #[239, 191, 189]).data.toList = [239, 191, 189] from rfl, pre_fffd, decide_eq_true hf]
          clear hf
          go_wp2_with (at_builtin; refine app_rune (by rfl) _ _ (by rfl) (w.heap.size + 1) _ acc ((65533 : Nat) : Int) HO.out (by rfl) _ rfl (by rfl) (by omega) hsz2 ?_; intro v' w4 hown4 hbel4; have HO4 : Hid _ := hown4; have HB4 : Hid _ := hbel4; clear hown4 hbel4)
          go_roundw
          case rel => exact ⟨p + n, acc ++ [((65533 : Nat) : Int)], HO4.out, by rw [HB4.out.block _ (Nat.lt_succ_self _)]; exact HIT.out, HB.out.trans (HB4.out.mono (by omega)), by rw [List.append_assoc]; exact HA.out, by simp; omega, hwl⟩
          case measure =>
            have h1 := HB4.out.block _ (Nat.lt_succ_self w.heap.size)
            have h2 := HIT.out
            have h3 := HIT0.out
            simp only [World.iterPos, h1, h2, h3]
            omega
        · have hc : c = -1 - (s[p].toNat : Int) := by rw [hd1 ⟨hr, hf⟩, hg0]
          subst hc hr
          clear hd1 hd2 hg0
          go_wp2_with fail
          refine (Tryd.strings_HasPrefix (s.extract p s.size) ⟨#[239, 191, 189]⟩ _).mono ?_
          rintro e w1 ⟨rfl, rfl⟩
          rw [drop_list, show (ByteArray.mk #[239, 191, 189]).data.toList = [239, 191, 189] from rfl, pre_fffd, decide_eq_false hf]
          clear hf
          go_wp2_with (at_builtin; refine app_rune (by rfl) _ _ (by rfl) (w.heap.size + 1) _ acc (-1 - (s[p].toNat : Int)) HO.out (by rfl) _ rfl (by rfl) (by omega) hsz2 ?_; intro v' w4 hown4 hbel4; have HO4 : Hid _ := hown4; have HB4 : Hid _ := hbel4; clear hown4 hbel4)
          go_roundw
          case rel => exact ⟨p + n, acc ++ [(-1 - (s[p].toNat : Int))], HO4.out, by rw [HB4.out.block _ (Nat.lt_succ_self _)]; exact HIT.out, HB.out.trans (HB4.out.mono (by omega)), by rw [List.append_assoc]; exact HA.out, by simp; omega, hwl⟩
          case measure =>
            have h1 := HB4.out.block _ (Nat.lt_succ_self w.heap.size)
            have h2 := HIT.out
            have h3 := HIT0.out
            simp only [World.iterPos, h1, h2, h3]
            omega
      · have hri : ¬ (r : Int) = 65533 := by omega
        have hc : c = (r : Int) := hd2 (fun h => hr h.1)
        subst hc
        clear hd1 hd2 hg0
        go_wp2_with (at_builtin; refine app_rune (by rfl) _ _ (by rfl) (w.heap.size + 1) _ acc (r : Int) HO.out (by rfl) _ rfl (by rfl) (by omega) hsz2 ?_; intro v' w4 hown4 hbel4; have HO4 : Hid _ := hown4; have HB4 : Hid _ := hbel4; clear hown4 hbel4)
        go_roundw
        case rel => exact ⟨p + n, acc ++ [(r : Int)], HO4.out, by rw [HB4.out.block _ (Nat.lt_succ_self _)]; exact HIT.out, HB.out.trans (HB4.out.mono (by omega)), by rw [List.append_assoc]; exact HA.out, by simp; omega, hwl⟩
        case measure =>
          have h1 := HB4.out.block _ (Nat.lt_succ_self w.heap.size)
          have h2 := HIT.out
          have h3 := HIT0.out
          simp only [World.iterPos, h1, h2, h3]
          omega
    · have hnx : ∀ ty, (Instr.next (.pointer (some ⟨w.heap.size, 0, none⟩)) true ty).run Tryd.prog wr = _ := fun ty => Lib.run_next_end_at wr w.heap.size s p ty hit hp
      have HO : Hid _ := hown
      have HA : Hid (acc = chL s.data.toList) := by rw [chAt_end s p hp, List.append_nil] at hacc; exact hacc
      clear hown hacc
      go_wp2
      go_ret
      exact ⟨_, rfl, by rw [← HA.out]; exact own_sees HO.out, hbel⟩
end Go.Proofs.YtfofionocnbohaaDoor
