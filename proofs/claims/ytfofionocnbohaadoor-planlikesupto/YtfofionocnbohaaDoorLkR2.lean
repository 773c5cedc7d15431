import Derived.Test.YtfofionocnbohaaDoorLkR1
import Derived.Laws.Strings2
namespace Go.Proofs.YtfofionocnbohaaDoor
open Go.ChangeShapes Go.WideShapes Go.ChangeAt Go.RowKit
set_option linter.unusedVariables false
set_option maxRecDepth 100000
theorem infoX : (Tryd.prog.info? 9).map (fun i => (i.zero, i.size, i.bytes)) = some (some (.string ⟨#[]⟩), 1, 16) := by kernel_rfl
/-- The slice value v holds just the texts ps, in a row of the call's own. -/
def ownX (w : World) (B : Nat) (v : Value) (ps : List ByteArray) : Prop := w.ownsRow B 9 1 v ps.length (ps.map Value.string)
theorem ownX_nil (w : World) (B : Nat) : ownX w B (.slice none 0 0) [] := World.ownsRow_nil _ _ _ _
theorem app_txt {wr : World} {ops : Array Oper} {rest : List Oper} {o : Oper} {a : Act} {Q : Exit → Act → World → Prop} (hgd : o.guard = none) (s x : Operand)
    (ho : o.op = .call { callee := .builtin .append, args := #[s, x], argTypes := #[23, 23] })
    (B : Nat) (v : Value) (ps : List ByteArray) (c : ByteArray) (hown : ownX wr B v ps) (hs : a.eval s = v) (hx : a.eval x = .slice (some ⟨wr.heap.size, 0, none⟩) 1 1)
    (hlen : (ps.length + 1) * 16 ≤ 140737488355328) (hB : B ≤ wr.heap.size)
    (h : ∀ v' w', ownX w' B v' (ps ++ [c]) → Below B wr w' → wpList Tryd.prog ops Q rest (a.put o.dst v') w') :
    wpList Tryd.prog ops Q (o :: rest) a (wr.alloc (.cells #[.string c] 9)) := by
  obtain ⟨i0, hi, hz0, hz1, hz2⟩ := info_parts infoX
  refine wpList_append_own _ hgd s x 23 ho B 9 i0 (.string ⟨#[]⟩) 1 16 Tryd.underlying23 hi hz0 hz1 hz2 rfl (by decide) v ps.length _ hs (World.ownsRow.alloc hown _)
    ⟨wr.heap.size, 0, none⟩ 1 1 [.string c] hx rfl ?_ ?_ (by unfold maxLen; omega) (by omega) (by simp; omega) ?_
  · intro j u hj
    match j, hj with
    | 0, hj => simp at hj; subst hj; simp [Addr.add]
  · intro u hu; simp at hu; subst hu; rfl
  · intro v' w' hown' hgrow _
    refine h v' w' ?_ ?_
    · unfold ownX
      rw [List.length_append, List.map_append]
      exact hown'
    · exact ((Below.refl _ _).alloc hB _).grown hgrow (by simp; omega) (fun k hk => (World.ownsRow.lt hown k hk).1)
/-- The characters of a text, each a text. -/
def pcB (l : List UInt8) : List ByteArray := (pcL l).map fun x => ⟨x.toArray⟩
theorem pcB_nil : pcB [] = [] := by unfold pcB; rw [pcL_nil]; rfl
theorem pcB_cons {l : List UInt8} (h : l ≠ []) : pcB l = ⟨(l.take (wdL l)).toArray⟩ :: pcB (l.drop (wdL l)) := by unfold pcB; rw [pcL_cons h]; rfl
theorem ext_take (s : ByteArray) (p n : Nat) : s.extract p (p + n) = ⟨((s.data.toList.drop p).take n).toArray⟩ := by
  have : (s.extract p (p + n)).data.toList = (s.data.toList.drop p).take n := by
    rw [ByteArray.data_extract, Array.toList_extract, List.extract_eq_take_drop]
    congr 1
    omega
  rcases h : s.extract p (p + n) with ⟨⟨l⟩⟩
  rw [h] at this
  rw [← this]
theorem ne_drop {s : ByteArray} {p : Nat} (h : p < s.size) : s.data.toList.drop p ≠ [] := by
  intro e
  have := congrArg List.length e
  rw [List.length_drop, Array.length_toList] at this
  have h' : p < s.data.size := h
  simp at this
  omega
set_option maxHeartbeats 4000000 in
theorem charsR (s : ByteArray) (w : World) (hs : s.size ≤ 1099511627776) :
    Calls Tryd.prog 7 #[.string s] w fun e w' => ∃ v, e = .returned v ∧ SeesG Value.string w' w'.heap.size v (pcB s.data.toList) ∧ Below w.heap.size w w' := by
  go_enter Tryd.func7, Tryd.ntmps7
  go_wp2
  go_loopw [3, 4, 5] (fun l x _ wr => ∃ (p : Nat) (acc : List ByteArray), x = .int .i64 (p : Int) ∧ ownX wr w.heap.size l acc ∧ Below w.heap.size w wr ∧ acc ++ pcB (s.data.toList.drop p) = pcB s.data.toList ∧ acc.length ≤ p ∧ p ≤ s.size) (fun _ x _ _ => s.size - (intOf x).toNat)
  case atStart => exact ⟨0, [], rfl, ownX_nil _ _, Below.refl _ _, rfl, by simp, by omega⟩
  case round =>
    obtain ⟨p, acc, rfl, hown, hbel, hacc, hal, hps⟩ := hrel
    have hsz : w.heap.size ≤ wr.heap.size := hbel.size
    have HO : Hid (ownX wr w.heap.size _ acc) := hown
    have HB : Hid (Below w.heap.size w wr) := hbel
    clear hown hbel
    by_cases hp : p < s.size
    · have hpi : (p : Int) < (s.size : Int) := by omega
      have HA : Hid (acc ++ ⟨((s.data.toList.drop p).take (wdL (s.data.toList.drop p))).toArray⟩ :: pcB (s.data.toList.drop (p + wdL (s.data.toList.drop p))) = pcB s.data.toList) := by
        show _ = _
        rw [← hacc, pcB_cons (ne_drop hp), List.drop_drop]
      have hw := wdL_pos (s.data.toList.drop p)
      have hwl : p + wdL (s.data.toList.drop p) ≤ s.size := by
        have h1 := wdL_le (ne_drop hp)
        rw [List.length_drop, Array.length_toList] at h1
        have h2 : s.data.size = s.size := rfl
        omega
      have HX : Hid _ := ext_take s p (wdL (s.data.toList.drop p))
      clear hacc
      go_wp2_with fail
      refine (wideR s p wr hp hs).mono ?_
      rintro e w1 ⟨rfl, rfl⟩
      generalize wdL (s.data.toList.drop p) = n at *
      have hpn1 : (p : Int) ≤ (p : Int) + (n : Int) := by omega
      have hpn2 : (p : Int) + (n : Int) ≤ (s.size : Int) := by omega
      go_wp2_with (at_builtin; refine app_txt (by rfl) _ _ (by rfl) w.heap.size _ acc (s.extract p (p + n)) HO.out (by rfl) (by rfl) (by omega) hsz ?_; intro v' w4 hown4 hbel4; have HO4 : Hid _ := hown4; have HB4 : Hid _ := hbel4; clear hown4 hbel4)
      go_roundw
      case rel => exact ⟨p + n, acc ++ [s.extract p (p + n)], by go_num, HO4.out, HB.out.trans HB4.out, by rw [List.append_assoc, HX.out]; exact HA.out, by simp; omega, hwl⟩
      case measure => simp [intOf]; omega
    · have hpi : ¬ (p : Int) < (s.size : Int) := by omega
      have HA : Hid (acc = pcB s.data.toList) := by
        show _ = _
        rw [← hacc, List.drop_eq_nil_of_le (by rw [Array.length_toList]; exact Nat.le_of_not_lt hp), pcB_nil, List.append_nil]
      clear hacc
      go_wp2
      go_ret
      exact ⟨_, rfl, by rw [← HA.out]; exact own_sees HO.out, HB.out⟩
end Go.Proofs.YtfofionocnbohaaDoor
