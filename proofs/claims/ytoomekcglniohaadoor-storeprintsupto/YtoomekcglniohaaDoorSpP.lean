import Derived.Test.YtoomekcglniohaaDoorShelf
import Derived.Test.YtoomekcglniohaaDoorRows
import Derived.WalkKit
import Derived.ProofKit
import Derived.Below
import Derived.OwnWalk
import Derived.Laws.OwnMore
import Derived.Laws.Rows
import Derived.RegionCalls
namespace Go.Proofs.YtoomekcglniohaaDoor
open Go.ChangeShapes Go.WideShapes Go.ChangeAt Go.RowKit
set_option linter.unusedVariables false
set_option maxRecDepth 100000
/-- A text's bytes with each quote doubled. -/
def quoL (l : List UInt8) : List UInt8 := l.flatMap fun b => if b = 39 then [39, 39] else [b]
theorem rep_ne (b c : UInt8) (new : List UInt8) (h : b ≠ c) (k : Nat) (l : List UInt8) : Lib.replaceK [c] new k (b :: l) = b :: Lib.replaceK [c] new k l := by
  cases k with
  | zero => rfl
  | succ k =>
    have h0 : List.isPrefixOf [c] (b :: l) = false := by simp [List.isPrefixOf, Ne.symm h]
    rcases Lib.index_spec l [c] with ⟨e, _⟩ | ⟨i, e, _⟩
    · have e1 : Lib.index (b :: l) [c] = -1 := by rw [Lib.index, if_neg (by rw [h0]; simp), if_pos (by rw [e]; rfl)]
      rw [Lib.replaceK, Lib.replaceK, if_pos (by rw [e1]; rfl), if_pos (by rw [e]; rfl)]
    · have hm : ¬ (Lib.index l [c] == -1) = true := fun x => by have := beq_iff_eq.1 x; omega
      have e1 : Lib.index (b :: l) [c] = ((i + 1 : Nat) : Int) := by rw [Lib.index, if_neg (by rw [h0]; simp), if_neg hm, e]; omega
      rw [Lib.replaceK_hit _ _ k (b :: l) (i + 1) e1, Lib.replaceK_hit _ _ k l i e]
      simp [List.take_succ_cons, List.drop_succ_cons]
theorem rep_eq (c : UInt8) (new : List UInt8) (k : Nat) (l : List UInt8) : Lib.replaceK [c] new (k + 1) (c :: l) = new ++ Lib.replaceK [c] new k l := by
  have h0 : List.isPrefixOf [c] (c :: l) = true := by simp [List.isPrefixOf]
  have e1 : Lib.index (c :: l) [c] = ((0 : Nat) : Int) := by rw [Lib.index, if_pos h0]; rfl
  rw [Lib.replaceK_hit _ _ k (c :: l) 0 e1]
  simp
theorem rep_quo : ∀ l : List UInt8, Lib.replaceK [39] [39, 39] (Lib.count l [39]) l = quoL l
  | [] => by
    have : Lib.count [] [39] = 0 := by rw [Lib.count_one]; rfl
    rw [this]; rfl
  | b :: l => by
    by_cases h : b = 39
    · subst h
      rw [Lib.count_cons_eq, Nat.add_comm, rep_eq, rep_quo l]
      rfl
    · rw [Lib.count_cons_ne _ _ _ h, rep_ne _ _ _ h, rep_quo l]
      simp [quoL, h]
theorem replace_quo (l : List UInt8) : Lib.replaceAll l [39] [39, 39] = quoL l := by
  unfold Lib.replaceAll Lib.replace Lib.replaceNum
  rw [if_neg (by decide), if_pos (.inl (by decide))]
  exact rep_quo l
theorem quoL_len : ∀ l : List UInt8, (quoL l).length ≤ 2 * l.length
  | [] => by simp [quoL]
  | b :: l => by
    have := quoL_len l
    unfold quoL at this ⊢
    rw [List.flatMap_cons, List.length_append, List.length_cons]
    split <;> simp only [List.length_cons, List.length_nil] <;> omega
/-- A text of bytes. -/
def tx (l : List UInt8) : ByteArray := ⟨l.toArray⟩
theorem tx_size (l : List UInt8) : (tx l).size = l.length := by show l.toArray.size = _; simp
theorem tx_app (a b : List UInt8) : tx a ++ tx b = tx (a ++ b) := by
  apply ByteArray.ext
  simp [tx, ByteArray.data_append]
theorem tx_of (s : ByteArray) : tx s.data.toList = s := by
  apply ByteArray.ext
  simp [tx]
theorem tx_list (l : List UInt8) : (tx l).data.toList = l := by simp [tx]
abbrev VL := Int × Int × ByteArray
/-- A reply. -/
structure RP where
  cmd : Int
  kind : Int
  who : Int
  code : Int
  rcode : Int
  names : List ByteArray
  rows : List (List VL)
  count : Int
  stamp : Int
  fin : Int
  nums : List Int
/-- The words of the commands. -/
def kwL (k : Int) : List UInt8 :=
  if k = 2 then [80, 76, 65, 89] else if k = 3 then [68, 82, 65, 73, 78] else if k = 4 then [84, 73, 67, 75] else if k = 5 then [70, 76, 85, 83, 72] else if k = 6 then [83, 89, 78, 67] else if k = 7 then [67, 72, 69, 67, 75, 80, 79, 73, 78, 84] else if k = 8 then [77, 69, 82, 71, 69] else if k = 9 then [67, 82, 65, 83, 72] else if k = 10 then [82, 69, 83, 84, 65, 82, 84] else if k = 11 then [67, 72, 69, 67, 75] else if k = 12 then [67, 85, 84] else [63]
def headL (kind who : Int) : List UInt8 := if kind = 1 then 64 :: Lib.itoa who else kwL kind
def codeL (c : Int) : List UInt8 := if c = 0 then [79, 75] else 69 :: Lib.itoa c
def quotL (s : ByteArray) : List UInt8 := 39 :: (quoL s.data.toList ++ [39])
def valL (v : VL) : List UInt8 := if v.1 = 3 then quotL v.2.2 else if v.1 = 2 then Lib.itoa v.2.1 else if v.1 = 1 then (if v.2.1 = 1 then [84, 82, 85, 69] else [70, 65, 76, 83, 69]) else [78, 85, 76, 76]
def listL (xs : List (List UInt8)) : List UInt8 := Lib.join xs [44, 32]
def cntL (n : Int) : List UInt8 := if n = 0 then [] else [32, 99, 111, 117, 110, 116, 32] ++ Lib.itoa n
def stpL (n : Int) : List UInt8 := if n = 0 then [] else [32, 115, 116, 97, 109, 112, 32] ++ Lib.itoa n
def finL (n : Int) : List UInt8 := if n = 1 then [32, 99, 111, 109, 109, 105, 116] else if n = 2 then [32, 97, 98, 111, 114, 116] else []
def endL (c s f : Int) : List UInt8 := cntL c ++ stpL s ++ finL f
def rowL (vs : List VL) : List UInt8 := [32, 32] ++ listL (vs.map valL) ++ [10]
def tailL (r : RP) : List UInt8 := if r.names = [] then [] else [124, 32] ++ listL (r.names.map quotL) ++ [10] ++ r.rows.flatMap rowL
def begL (r : RP) : List UInt8 := Lib.itoa r.cmd ++ [32] ++ headL r.kind r.who ++ [32] ++ codeL r.code
/-- The lines of a reply. -/
def repL (r : RP) : List UInt8 := begL r ++ (if r.kind = 1 then endL r.count r.stamp r.fin ++ [10] ++ tailL r else r.nums.flatMap (fun n => 32 :: Lib.itoa n) ++ [10])
def printL (rs : List RP) : List UInt8 := rs.flatMap repL
end Go.Proofs.YtoomekcglniohaaDoor
