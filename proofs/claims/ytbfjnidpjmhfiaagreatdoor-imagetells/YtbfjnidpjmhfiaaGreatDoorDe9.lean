import Derived.Test.YtbfjnidpjmhfiaaGreatDoorDlP
import Derived.Test.YtbfjnidpjmhfiaaGreatDoorMd1
import Derived.Test.YtbfjnidpjmhfiaaGreatDoorMd2
import Derived.Test.YtbfjnidpjmhfiaaGreatDoorMd7
import Derived.Test.YtbfjnidpjmhfiaaGreatDoorDe2
namespace Go.Proofs.YtbfjnidpjmhfiaaGreatDoor
open Go.ChangeShapes Go.WideShapes Go.ChangeAt Go.RowKit
set_option linter.unusedVariables false
set_option maxRecDepth 100000
/-- A text is read, and the reader stands behind it; or the reading gives up. -/
def TookB (R : Nat) (s : ByteArray) (w : World) (r : Option (ByteArray × Nat)) (e : Ending) (w' : World) : Prop :=
  Fr R w w' ∧ ((∃ x q, r = some (x, q) ∧ e = .returned (.string x) ∧ RdI w' R s q) ∨ (r = none ∧ e = oops 125))
theorem TookB.yes {R : Nat} {s : ByteArray} {w w' : World} {x : ByteArray} {q : Nat} {e : Ending} (h : TookB R s w (some (x, q)) e w') : Fr R w w' ∧ e = .returned (.string x) ∧ RdI w' R s q := by
  obtain ⟨hf, ⟨x', q', hxx, he, hr⟩ | ⟨hxx, _⟩⟩ := h
  · injection hxx with hxx
    injection hxx with ha hb
    subst ha hb
    exact ⟨hf, he, hr⟩
  · cases hxx
theorem TookB.no {R : Nat} {s : ByteArray} {w w' : World} {e : Ending} (h : TookB R s w none e w') : Fr R w w' ∧ e = oops 125 := by
  obtain ⟨hf, ⟨x', q', hxx, he, hr⟩ | ⟨_, he⟩⟩ := h
  · cases hxx
  · exact ⟨hf, he⟩
set_option maxHeartbeats 1600000 in
theorem takeBI (R : Nat) (s : ByteArray) (p : Nat) (w : World) (h : RdI w R s p) (hp : p ≤ s.size) (hs : s.size ≤ 1125899906842624) :
    Calls Tryz.prog 61 #[.pointer (some ⟨R, 0, none⟩), .func (.func 62) #[] #[]] w (TookB R s w (rdB s p)) := by
  have hT : TkI w R s p w := ⟨Below.refl _ _, h.cell0, h.cell1⟩
  have HU : Hid (∀ W, TkI w R s p W → Calls Tryz.prog 62 #[.string s, .int .i64 p] W fun e w' => e = .returned (.tuple #[.string (rB s p).1, .int .i64 (rB s p).2.1, .int .i64 (rB s p).2.2]) ∧ TkI w R s p w') := fun W hW => (ReadBlob_any s p W (by omega) (by omega) hs).mono fun e w' ⟨he, hb⟩ => ⟨he, hW.next h.lt hb⟩
  have HR : Hid (RdI w R s p) := h
  clear h
  unfold rdB
  by_cases hc : (rbV s p 1048576).2.2 = 0
  · have he : rB s (p : Int) = ((rbV s p 1048576).1, (p : Int) + (rbV s p 1048576).2.1, 0) := rd3_ok s p ByteArray.empty (tB s) hp hc
    rw [he] at HU
    have hin := (rb_form s p 1048576 hc).2.2.2
    rw [if_pos hc]
    clear hc he
    generalize (rbV s p 1048576).1 = v at *
    generalize (rbV s p 1048576).2.1 = n at *
    go_enter Tryz.func61, Tryz.ntmps61
    go_wp2
    go_region_held3 (fun W => TkI w R s p W) (first | assumption | exact TkI.drew (by assumption)) (first | (go_at_call 62; refine (HU.out _ (by first | assumption | exact TkI.drew (by assumption))).mono ?_; rintro e w7 ⟨rfl, BT⟩))
    have HB : Hid (Below w.heap.size w w7) := BT.1
    have c1 := BT.2.2
    have f1 := (HR.out.later BT.1).free 1
    have HR7 : Hid (RdI w7 R s p) := HR.out.later BT.1
    clear BT
    go_wp2_with fail
    refine (giveUpI_no 125 w7).mono ?_
    rintro e w8 ⟨rfl, rfl⟩
    go_wp2
    go_ret
    refine ⟨(Fr.of (Nat.le_of_lt HR.out.lt) HB.out).setCell rfl _, .inl ⟨_, p + n, rfl, rfl, ?_⟩⟩
    have := HR7.out.move (p + n)
    rw [Int.natCast_add] at this
    exact this
  · have he : rB s (p : Int) = (ByteArray.empty, (p : Int), (rbV s p 1048576).2.2) := rd3_err s p ByteArray.empty (tB s) hp hc
    rw [he] at HU
    rw [if_neg hc]
    have hcc : ((rbV s p 1048576).2.2 != 0) = true := by simpa using hc
    clear he hc
    generalize (rbV s p 1048576).2.2 = c at *
    go_enter Tryz.func61, Tryz.ntmps61
    go_wp2
    go_region_held3 (fun W => TkI w R s p W) (first | assumption | exact TkI.drew (by assumption)) (first | (go_at_call 62; refine (HU.out _ (by first | assumption | exact TkI.drew (by assumption))).mono ?_; rintro e w7 ⟨rfl, BT⟩))
    have HB : Hid (Below w.heap.size w w7) := BT.1
    clear BT
    go_wp2_with fail
    refine (giveUpI_yes 125 w7).mono ?_
    rintro e w8 ⟨rfl, rfl⟩
    exact ⟨rfl, Fr.of (Nat.le_of_lt HR.out.lt) HB.out, .inr ⟨rfl, rfl⟩⟩
end Go.Proofs.YtbfjnidpjmhfiaaGreatDoor

namespace Go.Proofs.YtbfjnidpjmhfiaaGreatDoor
open Go.ChangeShapes Go.WideShapes Go.ChangeAt Go.RowKit
set_option linter.unusedVariables false
set_option maxRecDepth 100000
/-- A text is read loosely: whatever it is, and what stands there if it is a text's bytes. -/
def CuT (C : Nat) (s : ByteArray) (p : Nat) (bad : Bool) (w : World) (e : Ending) (w' : World) : Prop :=
  Fr C w w' ∧ ∃ v q bad', e = .returned (.string v) ∧ Cu w' C s q bad' ∧ v.size ≤ 1048576 ∧ q ≤ s.size ∧ ∀ x, x.size ≤ 1048576 → bad = false → HasAt s p (blB x) → v = x ∧ q = p + (blB x).length ∧ bad' = false
set_option maxHeartbeats 1600000 in
theorem textU (C : Nat) (s : ByteArray) (p : Nat) (bad : Bool) (w : World) (h : Cu w C s p bad) (hp : p ≤ s.size) (hs : s.size ≤ 1125899906842624) :
    Calls Tryz.prog 38 #[.pointer (some ⟨C, 0, none⟩)] w (CuT C s p bad w) := by
  have hc0 : w.cell? ⟨C, 0, none⟩ = some (.string s) := h.cell 0
  have hc1 : w.cell? ⟨C, 1, none⟩ = some (.int .i64 p) := h.cell 1
  have hT : TkU w C s p w := ⟨Below.refl _ _, hc0, hc1⟩
  have HC : Hid (Cu w C s p bad) := h
  have HU : Hid (∀ W, TkU w C s p W → Calls Tryz.prog 66 #[.string s, .int .i64 p] W fun e w' => e = .returned (.tuple #[.string (rB s p).1, .int .i64 (rB s p).2.1, .int .i64 (rB s p).2.2]) ∧ TkU w C s p w') := fun W hW => (ref_blob_read s p W hs).mono fun e w' ⟨he, hb⟩ => ⟨he, by rw [hb]; exact hW⟩
  have HB : Hid (∀ x : ByteArray, x.size ≤ 1048576 → HasAt s p (blB x) → rbV s p 1048576 = (x, (blB x).length, 0)) := fun x h1 hh => rb_back s x p 1048576 hp h1 (Nat.le_refl _) hh
  clear h hc0 hc1
  by_cases hc : (rbV s p 1048576).2.2 = 0
  · have he : rB s (p : Int) = ((rbV s p 1048576).1, (p : Int) + (rbV s p 1048576).2.1, 0) := rd3_ok s p ByteArray.empty (tB s) hp hc
    rw [he] at HU
    have hin := (rb_form s p 1048576 hc).2.2.2
    have hvb := (rb_form s p 1048576 hc).2.2.1
    have HB2 : Hid (∀ x : ByteArray, x.size ≤ 1048576 → HasAt s p (blB x) → (rbV s p 1048576).1 = x ∧ p + (rbV s p 1048576).2.1 = p + (blB x).length) := fun x h1 hh => by
      rw [HB.out x h1 hh]
      exact ⟨rfl, rfl⟩
    clear hc he HB
    generalize (rbV s p 1048576).1 = v at *
    generalize (rbV s p 1048576).2.1 = n at *
    go_enter Tryz.func38, Tryz.ntmps38
    go_wp2
    go_region_held3 (fun W => TkU w C s p W) (first | assumption | exact TkU.drew (by assumption)) (first | (go_at_call 66; refine (HU.out _ (by first | assumption | exact TkU.drew (by assumption))).mono ?_; rintro e w7 ⟨rfl, BT⟩))
    have HBl : Hid (Below w.heap.size w w7) := BT.1
    have hC7 := HC.out.later BT.1 HC.out.lt
    have c1 : w7.cell? ⟨C, 1, none⟩ = some (.int .i64 p) := hC7.cell 1
    have c2 : w7.cell? ⟨C, 2, none⟩ = some (.bool bad) := hC7.cell 2
    have f1 := hC7.free 1
    have f2 := hC7.free 2
    have HC7 : Hid (Cu w7 C s p bad) := hC7
    clear BT hC7
    cases bad
    · go_wp2
      go_ret
      refine ⟨(Fr.of (Nat.le_of_lt HC.out.lt) HBl.out).setCell rfl _, v, p + n, false, rfl, ?_, hvb, hin, fun x h1 hb hh => ⟨(HB2.out x h1 hh).1, (HB2.out x h1 hh).2, rfl⟩⟩
      have := HC7.out.move (p + n)
      rw [Int.natCast_add] at this
      exact this
    · go_wp2
      go_ret
      refine ⟨(Fr.of (Nat.le_of_lt HC.out.lt) HBl.out).setCell rfl _, ⟨#[]⟩, p, true, rfl, HC7.out.spoil true, by decide, hp, fun x h1 hb hh => ?_⟩
      cases hb
  · have he : rB s (p : Int) = (ByteArray.empty, (p : Int), (rbV s p 1048576).2.2) := rd3_err s p ByteArray.empty (tB s) hp hc
    rw [he] at HU
    have hcc : ((rbV s p 1048576).2.2 != 0) = true := by simpa using hc
    have HB2 : Hid (∀ x : ByteArray, x.size ≤ 1048576 → HasAt s p (blB x) → False) := fun x h1 hh => by
      apply hc
      rw [HB.out x h1 hh]
    clear he hc HB
    generalize (rbV s p 1048576).2.2 = c at *
    go_enter Tryz.func38, Tryz.ntmps38
    go_wp2
    go_region_held3 (fun W => TkU w C s p W) (first | assumption | exact TkU.drew (by assumption)) (first | (go_at_call 66; refine (HU.out _ (by first | assumption | exact TkU.drew (by assumption))).mono ?_; rintro e w7 ⟨rfl, BT⟩))
    have HBl : Hid (Below w.heap.size w w7) := BT.1
    have hC7 := HC.out.later BT.1 HC.out.lt
    have c1 : w7.cell? ⟨C, 1, none⟩ = some (.int .i64 p) := hC7.cell 1
    have c2 : w7.cell? ⟨C, 2, none⟩ = some (.bool bad) := hC7.cell 2
    have f1 := hC7.free 1
    have f2 := hC7.free 2
    have HC7 : Hid (Cu w7 C s p bad) := hC7
    clear BT hC7
    go_wp2
    go_ret
    refine ⟨(Fr.of (Nat.le_of_lt HC.out.lt) HBl.out).setCell rfl _, ⟨#[]⟩, p, true, rfl, HC7.out.spoil true, by decide, hp, fun x h1 hb hh => (HB2.out x h1 hh).elim⟩
end Go.Proofs.YtbfjnidpjmhfiaaGreatDoor

namespace Go.Proofs.YtbfjnidpjmhfiaaGreatDoor
open Go.ChangeShapes Go.WideShapes Go.ChangeAt Go.RowKit
set_option linter.unusedVariables false
set_option maxRecDepth 100000
theorem infoE : (Tryz.prog.info? 33).map (fun i => (i.zero, i.size, i.bytes)) = some (some (.agg #[.int .u64 0, .int .u64 0, .string ⟨#[]⟩]), 3, 32) := by kernel_rfl
def cellE (a : ER) : List Value := [.int .u64 a.beg, .int .u64 a.fin, .string a.key]
def cellsE (vs : List ER) : List Value := vs.flatMap cellE
theorem cellsE_cons (v : ER) (vs : List ER) : cellsE (v :: vs) = .int .u64 v.beg :: .int .u64 v.fin :: .string v.key :: cellsE vs := rfl
theorem cellsE_len : ∀ vs, (cellsE vs).length = vs.length * 3
  | [] => rfl
  | v :: vs => by
    rw [cellsE_cons]
    simp only [List.length_cons, cellsE_len vs]; omega
theorem cellsE_app (xs ys : List ER) : cellsE (xs ++ ys) = cellsE xs ++ cellsE ys := by simp [cellsE]
structure ErIn (l : List Value) (o : Nat) (p : ER) : Prop where
  c0 : l[o]? = some (.int .u64 p.beg)
  c1 : l[o + 1]? = some (.int .u64 p.fin)
  c2 : l[o + 2]? = some (.string p.key)
theorem cellsE_get : ∀ (vs : List ER) (i : Nat) (hi : i < vs.length), ErIn (cellsE vs) (i * 3) vs[i]
  | v :: vs, 0, _ => by constructor <;> simp [cellsE_cons]
  | v :: vs, i + 1, hi => by
    have := cellsE_get vs i (by simp at hi; omega)
    obtain ⟨h0, h1, h2⟩ := this
    rw [cellsE_cons, show (i + 1) * 3 = i * 3 + 1 + 1 + 1 from by omega]
    constructor <;> simpa
theorem cellsE_one (vs : List ER) : ∀ u ∈ cellsE vs, u.oneCell' = true := by
  intro u hu
  unfold cellsE at hu
  obtain ⟨p, _, hp⟩ := List.mem_flatMap.1 hu
  simp [cellE] at hp
  rcases hp with rfl | rfl | rfl <;> rfl
/-- The slice value v holds just the erasures vs, in a row of the call's own. -/
def ownE (w : World) (B : Nat) (v : Value) (vs : List ER) : Prop := w.ownsRow B 33 3 v vs.length (cellsE vs)
theorem ownE_nil (w : World) (B : Nat) : ownE w B (.slice none 0 0) [] := World.ownsRow_nil _ _ _ _
theorem ownE.shape {w : World} {B : Nat} {v : Value} {vs : List ER} (h : ownE w B v vs) : (v = .slice none 0 0 ∧ vs = []) ∨ ∃ g cap, v = .slice (some ⟨g, 0, none⟩) vs.length cap ∧ B ≤ g ∧ g < w.heap.size := by
  rcases h.2 with ⟨h', h''⟩ | ⟨g', cap', cur, h', hb, hg, hnc, hm, hs, ht⟩
  · exact .inl ⟨h', List.length_eq_zero_iff.1 h''⟩
  · exact .inr ⟨g', cap', h', hb, (Array.getElem?_eq_some_iff.1 hg).1⟩
theorem ownE.slice {w : World} {B : Nat} {v : Value} {vs : List ER} (h : ownE w B v vs) : ∃ ao cap, v = .slice ao vs.length cap ∧ (ao = none → vs = [] ∧ cap = 0) ∧ (∀ ad, ao = some ad → ∃ b, ad = ⟨b, 0, none⟩ ∧ B ≤ b ∧ b < w.heap.size) := by
  rcases h.shape with ⟨rfl, rfl⟩ | ⟨g, cap, rfl, h1, h2⟩
  · exact ⟨none, 0, rfl, fun _ => ⟨rfl, rfl⟩, fun ad h => by cases h⟩
  · refine ⟨_, _, rfl, (fun h => by cases h), fun ad h => ?_⟩
    cases h
    exact ⟨g, rfl, h1, h2⟩
theorem ownE.isSlice {w : World} {B : Nat} {v : Value} {vs : List ER} (h : ownE w B v vs) : ∃ a n c, v = .slice a n c := by
  obtain ⟨ao, cap, e, _⟩ := h.slice
  exact ⟨_, _, _, e⟩
theorem ownE.sees {w : World} {B : Nat} {ao : Option Addr} {n cap : Nat} {vs : List ER} (h : ownE w B (.slice ao n cap) vs) : SeesE w w.heap.size ao vs := by
  have hh := h
  intro i hi
  rcases h.2 with ⟨h', h''⟩ | ⟨g', cap', cur, h', hb, hg, hnc, hm, hs, ht⟩
  · omega
  · simp only [Value.slice.injEq] at h'
    obtain ⟨rfl, rfl, rfl⟩ := h'
    refine ⟨g', 0, rfl, (Array.getElem?_eq_some_iff.1 hg).1, ?_⟩
    unfold ownE at hh
    obtain ⟨c0, c1, c2⟩ := cellsE_get vs i hi
    constructor
    · rw [show 0 + i * 3 = i * 3 from by omega, World.ownsRow.cellAt hh _ (by omega)]; exact c0
    · rw [show 0 + i * 3 + 1 = i * 3 + 1 from by omega, World.ownsRow.cellAt hh _ (by omega)]; exact c1
    · rw [show 0 + i * 3 + 2 = i * 3 + 2 from by omega, World.ownsRow.cellAt hh _ (by omega)]; exact c2
theorem ownE.same {w w' : World} {B : Nat} {v : Value} {xs : List ER} (h : ownE w B v xs) (hk : ∀ k, k < w.heap.size → B ≤ k → w'.heap[k]? = w.heap[k]?) : ownE w' B v xs := by
  rcases h with ⟨h1, h2 | ⟨g, cap, cur, rfl, hb, hg, hr⟩⟩
  · exact ⟨h1, .inl h2⟩
  · exact ⟨h1, .inr ⟨g, cap, cur, rfl, hb, by rw [hk g (Array.getElem?_eq_some_iff.1 hg).1 hb]; exact hg, hr⟩⟩
theorem ownE.alloc {w : World} {B : Nat} {v : Value} {xs : List ER} (h : ownE w B v xs) (o : Obj) : ownE (w.alloc o) B v xs := World.ownsRow.alloc h o
theorem ownE.mono {w : World} {B C : Nat} {v : Value} {xs : List ER} (h : ownE w B v xs) (hc : C ≤ B) : ownE w C v xs := by
  refine ⟨h.1, ?_⟩
  rcases h.2 with h1 | ⟨g, cap, cur, e, h1, h2⟩
  · exact .inl h1
  · exact .inr ⟨g, cap, cur, e, Nat.le_trans hc h1, h2⟩
theorem ownE.later {w w' : World} {B : Nat} {v : Value} {xs : List ER} (h : ownE w B v xs) (hb : Below w.heap.size w w') : ownE w' B v xs := h.same fun k hk _ => hb.block k hk
theorem ownE.own {w : World} {B : Nat} {v : Value} {vs : List ER} (h : ownE w B v vs) : ∀ k, v.ownBlock = some k → B ≤ k ∧ k < w.heap.size := fun k hk => World.ownsRow.lt h k hk
theorem ownE.keep {w w' : World} {B : Nat} {v : Value} {xs : List ER} (h : ownE w B v xs) (hk : ∀ k, v.ownBlock = some k → w'.heap[k]? = w.heap[k]?) : ownE w' B v xs := by
  rcases h with ⟨h1, h2 | ⟨g, cap, cur, rfl, hb, hg, hr⟩⟩
  · exact ⟨h1, .inl h2⟩
  · exact ⟨h1, .inr ⟨g, cap, cur, rfl, hb, by rw [hk g rfl]; exact hg, hr⟩⟩
theorem app_er {wr : World} {ops : Array Oper} {rest : List Oper} {o : Oper} {a : Act} {Q : Exit → Act → World → Prop} (hgd : o.guard = none) (s x : Operand)
    (ho : o.op = .call { callee := .builtin .append, args := #[s, x], argTypes := #[24, 24] })
    (B : Nat) (v : Value) (vs : List ER) (c : ER) (hown : ownE wr B v vs) (hs : a.eval s = v) (g : Nat) (hg : g = wr.heap.size) (hx : a.eval x = .slice (some ⟨g, 0, none⟩) 1 1)
    (hlen : (vs.length + 1) * 32 ≤ 140737488355328) (hB : B ≤ wr.heap.size)
    (h : ∀ v' w', ownE w' B v' (vs ++ [c]) → Below B wr w' → (∀ k, k < wr.heap.size → some k ≠ v.ownBlock → w'.heap[k]? = wr.heap[k]?) → wpList Tryz.prog ops Q rest (a.put o.dst v') w') :
    wpList Tryz.prog ops Q (o :: rest) a (wr.alloc (.cells #[.int .u64 c.beg, .int .u64 c.fin, .string c.key] 33)) := by
  subst hg
  obtain ⟨i0, hi, hz0, hz1, hz2⟩ := info_parts infoE
  refine wpList_append_own _ hgd s x 24 ho B 33 i0 _ 3 32 Tryz.underlying24 hi hz0 hz1 hz2 rfl (by decide) v vs.length _ hs (World.ownsRow.alloc hown _)
    ⟨wr.heap.size, 0, none⟩ 1 1 (cellE c) hx rfl ?_ ?_ (by unfold maxLen; omega) (by omega) (by simp; omega) ?_
  · intro j u hj
    match j, hj with
    | 0, hj => simp [cellE] at hj; subst hj; simp [Addr.add]
    | 1, hj => simp [cellE] at hj; subst hj; simp [Addr.add]
    | 2, hj => simp [cellE] at hj; subst hj; simp [Addr.add]
  · intro u hu; exact cellsE_one [c] u (by simpa [cellsE] using hu)
  · intro v' w' hown' hgrow _
    refine h v' w' ?_ ?_ (fun k hk hne => (hgrow.block k (by simp; omega) hne).trans (Below.heap_alloc _ _ k hk))
    · have : (vs ++ [c]).length = vs.length + 1 := by simp
      unfold ownE; rw [this, cellsE_app, show cellsE [c] = cellE c from by simp [cellsE]]; exact hown'
    · exact ((Below.refl _ _).alloc hB _).grown hgrow (by simp; omega) (fun k hk => (World.ownsRow.lt hown k hk).1)
theorem Fp6.fr {W W' : World} {g R : Nat} {a b c d e f : Value} (h : Fp6 W g a b c d e f) (hf : Fr R W W') (hn : g ≠ R) : Fp6 W' g a b c d e f := (hf.rest g h.lt hn).trans h
theorem Fp6.other {W : World} {g : Nat} {a b c d e f : Value} (h : Fp6 W g a b c d e f) {p : Addr} (v : Value) (hp : g ≠ p.block) : Fp6 (W.setCell p v) g a b c d e f := (Below.heap_setCell W p v g hp).trans h
theorem Fp6.set5 {W : World} {g : Nat} {a b c d e f : Value} (h : Fp6 W g a b c d e f) (v : Value) : Fp6 (W.setCell ⟨g, 5, none⟩ v) g a b c d e v := by
  unfold Fp6 at h ⊢
  simp [World.setCell, Array.getElem?_modify, h]
theorem Fp6.setAll {W : World} {g : Nat} {a b c d e f : Value} (h : Fp6 W g a b c d e f) (a' b' c' d' e' f' : Value) : Fp6 ((((((W.setCell ⟨g, 0, none⟩ a').setCell ⟨g, 1, none⟩ b').setCell ⟨g, 2, none⟩ c').setCell ⟨g, 3, none⟩ d').setCell ⟨g, 4, none⟩ e').setCell ⟨g, 5, none⟩ f') g a' b' c' d' e' f' := by
  unfold Fp6 at h ⊢
  simp [World.setCell, Array.getElem?_modify, h]
theorem infoFp : (Tryz.prog.info? 26).map (·.size) = some 6 := by kernel_rfl
theorem ret_fp {fn : Func} {p : Tmp} (h : fn.results = #[.cell p 26]) (tmps : Array Value) (w : World) (a b c d e f : Value) (g : Nat) (hp : tmps.getD p undef = .pointer (some ⟨g, 0, none⟩)) (hg : Fp6 w g a b c d e f) :
    (results fn tmps).run Tryz.prog w = .ok (.agg #[a, b, c, d, e, f]) w := by
  have hp' : tmps[p]?.getD undef = .pointer (some ⟨g, 0, none⟩) := by simpa using hp
  unfold Fp6 at hg
  simp [results, h, hp', asAddr, run_loadVar_row w g 26 26 _ (0, 0) _ hg Tryz.underlying26 rfl infoFp]
/-- What is read of the erasures, when some of them are read. -/
def restE (s : ByteArray) (done : List ER) (m p : Nat) (last : Int) : Option (List ER × Nat) := (rdEs s m p last).map fun y => (done ++ y.1, y.2)
theorem restE_zero (s : ByteArray) (done : List ER) (p : Nat) (last : Int) : restE s done 0 p last = some (done, p) := by simp [restE, rdEs]
theorem restE_no {s : ByteArray} {done : List ER} {m p : Nat} {last : Int} (h : rdE s p last = none) : restE s done (m + 1) p last = none := by simp [restE, rdEs, h]
theorem restE_yes {s : ByteArray} {done : List ER} {m p q : Nat} {last : Int} {v : ER} (h : rdE s p last = some (v, q)) : restE s done (m + 1) p last = restE s (done ++ [v]) m q v.beg := by
  unfold restE
  conv => lhs; unfold rdEs
  rw [h]
  simp only [Option.bind_some]
  cases rdEs s m q v.beg with
  | none => rfl
  | some x => simp
end Go.Proofs.YtbfjnidpjmhfiaaGreatDoor
