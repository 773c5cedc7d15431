import Derived.Test.YtngkooonfldphaaGreatDoorOpenN
import Derived.Test.YtngkooonfldphaaGreatDoorVerNil
import Derived.Laws.AppendOwnNone
namespace Go.Proofs.YtngkooonfldphaaGreatDoor
open Go.ChangeShapes Go.WideShapes Go.ChangeAt Go.RowKit
set_option linter.unusedVariables false
set_option maxRecDepth 100000
/-- The law's argument in its block. -/
structure XAt (w : World) (k : Nat) (i s a : Int) (n dd : ByteArray) (ao : Option Addr) (l cap : Nat) : Prop where
  z : k < w.heap.size
  c0 : w.cell? ⟨k, 0, none⟩ = some (.int .i64 i)
  c1 : w.cell? ⟨k, 1, none⟩ = some (.int .i64 s)
  c2 : w.cell? ⟨k, 2, none⟩ = some (.int .u64 a)
  c3 : w.cell? ⟨k, 3, none⟩ = some (.string n)
  c4 : w.cell? ⟨k, 4, none⟩ = some (.string dd)
  c5 : w.cell? ⟨k, 5, none⟩ = some (.slice ao l cap)
theorem XAt.step {w w' : World} {k : Nat} {i s a : Int} {n dd : ByteArray} {ao : Option Addr} {l cap : Nat} (h : XAt w k i s a n dd ao l cap) (hb : Below w.heap.size w w') : XAt w' k i s a n dd ao l cap :=
  ⟨Nat.lt_of_lt_of_le h.z hb.size, (hb.cell (p := ⟨k, 0, none⟩) h.z).trans h.c0, (hb.cell (p := ⟨k, 1, none⟩) h.z).trans h.c1, (hb.cell (p := ⟨k, 2, none⟩) h.z).trans h.c2, (hb.cell (p := ⟨k, 3, none⟩) h.z).trans h.c3, (hb.cell (p := ⟨k, 4, none⟩) h.z).trans h.c4, (hb.cell (p := ⟨k, 5, none⟩) h.z).trans h.c5⟩
theorem XAt.drew {w : World} {k : Nat} {i s a : Int} {n dd : ByteArray} {ao : Option Addr} {l cap : Nat} (h : XAt w k i s a n dd ao l cap) : XAt w.drew k i s a n dd ao l cap :=
  h.step (Below.refl _ _).drew
def OwnM (w wr : World) (v : Value) (vs : List Int) : Prop := ownI wr w.heap.size v vs
theorem OwnM.step {w wr w' : World} {v : Value} {vs : List Int} (h : OwnM w wr v vs) (hb : Below wr.heap.size wr w') : OwnM w w' v vs := ownI.later h hb
set_option maxHeartbeats 12800000 in
theorem vnils_walk (i s a : Int) (n dd : ByteArray) (ao : Option Addr) (cap : Nat) (vs : List Int) (w : World) (hsees : SeesN w w.heap.size ao vs) (hcap : ao = none → cap = 0) (hlc : vs.length ≤ cap) (hroom : vs.length * 8 ≤ 140737488351232) : Calls Tryz.prog 3 #[.agg #[.int .i64 i, .int .i64 s, .int .u64 a, .string n, .string dd, .slice ao vs.length cap]] w fun e w' => e = .returned (.bool true) ∧ Below w.heap.size w w' := by
  have HR : Hid ((ao = none → cap = 0) ∧ vs.length ≤ cap ∧ vs.length * 8 ≤ 140737488351232) := ⟨hcap, hlc, hroom⟩
  have HS : Hid (∀ W, BelS w W → SeesN W w.heap.size ao vs) := fun W hW => hsees.later hW
  clear hsees hcap hlc hroom
  have d : BelS w (w.alloc (.cells #[.int .i64 i, .int .i64 s, .int .u64 a, .string n, .string dd, .slice ao vs.length cap] 25)) := (Below.refl _ _).alloc (Nat.le_refl _) _
  have X : XAt (w.alloc (.cells #[.int .i64 i, .int .i64 s, .int .u64 a, .string n, .string dd, .slice ao vs.length cap] 25)) w.heap.size i s a n dd ao vs.length cap := ⟨by rw [sizeA]; exact Nat.lt_succ_self _, (cellH (heap_alloc_new _ _) 0).trans rfl, (cellH (heap_alloc_new _ _) 1).trans rfl, (cellH (heap_alloc_new _ _) 2).trans rfl, (cellH (heap_alloc_new _ _) 3).trans rfl, (cellH (heap_alloc_new _ _) 4).trans rfl, (cellH (heap_alloc_new _ _) 5).trans rfl⟩
  go_enter Tryz.func3, Tryz.ntmps3
  go_wp2_with fail
  generalize (w.alloc (.cells #[.int .i64 i, .int .i64 s, .int .u64 a, .string n, .string dd, .slice ao vs.length cap] 25)) = W at *
  generalize hk : w.heap.size = k at X ⊢
  refine (wordsN _ _).mono ?_
  rintro e w1 ⟨rfl, hb⟩
  replace d := d.step hb
  replace X := X.step hb
  clear hb
  have c0 := X.c0
  have c1 := X.c1
  have c2 := X.c2
  have c3 := X.c3
  have c4 := X.c4
  have c5 := X.c5
  go_wp2_with fail
  clear c0 c1 c2 c3 c4 c5
  refine (accessesN _).mono ?_
  rintro e w2 ⟨rfl, hb⟩
  replace d := d.step hb
  replace X := X.step hb
  clear hb
  have c0 := X.c0
  have c1 := X.c1
  have c2 := X.c2
  have c3 := X.c3
  have c4 := X.c4
  have c5 := X.c5
  go_wp2_with fail
  clear c0 c1 c2 c3 c4 c5
  refine (missesN _).mono ?_
  rintro e w3 ⟨rfl, hb⟩
  replace d := d.step hb
  replace X := X.step hb
  clear hb
  have c0 := X.c0
  have c1 := X.c1
  have c2 := X.c2
  have c3 := X.c3
  have c4 := X.c4
  have c5 := X.c5
  go_wp2_with fail
  clear c0 c1 c2 c3 c4 c5
  refine (bucketN _ _).mono ?_
  rintro e w4 ⟨rfl, hb⟩
  replace d := d.step hb
  replace X := X.step hb
  clear hb
  have ca := (X.step ((Below.refl _ _).alloc (Nat.le_refl _) (.cells #[] 3))).c5
  have d0 : BelS w (w4.alloc (.cells #[] 3)) := d.step ((Below.refl _ _).alloc (Nat.le_refl _) _)
  have D0 : Hid (w.heap.size ≤ w4.heap.size) := d.size
  have R0 : Hid ((([] : List Int).length + vs.length) * 8 ≤ 140737488355328) := by have := HR.out.2.2; show (([] : List Int).length + vs.length) * 8 ≤ 140737488355328; simp only [List.length_nil]; omega
  have G0 : Hid (∀ mv w5, ownI w5 w.heap.size mv ([] ++ vs) → (w4.alloc (.cells #[] 3)).grownBy w5 (some w4.heap.size) → BelS w w5 ∧ XAt w5 k i s a n dd ao vs.length cap ∧ OwnM w w5 mv vs) := fun mv w5 hown hgrow => by
    have hb5 : Below w4.heap.size w4 w5 := ((Below.refl _ _).alloc (Nat.le_refl _) _).grown hgrow (by rw [sizeA]; exact Nat.le_succ _) (fun k hk => by injection hk with hk; exact Nat.le_of_eq hk)
    exact ⟨d.step hb5, X.step hb5, hown⟩
  clear X d
  go_wp2_with (at_builtin; refine app_ints (by rfl) _ _ (by rfl) w.heap.size w.heap.size (.slice (some ⟨w4.heap.size, 0, none⟩) 0 0) [] (World.ownsRow_made w4 #[] 0 D0.out (Nat.zero_le _) rfl) (by rfl) ao cap vs (by rfl) (HS.out _ d0) HR.out.1 HR.out.2.1 R0.out d0.size ?_; intro mv w5 hown hgrow; obtain ⟨d, X, O⟩ := G0.out mv w5 hown hgrow; clear hown hgrow; have c0 := X.c0; have c3 := X.c3; have c4 := X.c4)
  clear ca d0 D0 R0 G0 c0 c3 c4
  refine (makeN _ _ _ _).mono ?_
  rintro e w6 ⟨rfl, hb⟩
  replace d := d.step hb
  replace X := X.step hb
  replace O := O.step hb
  clear hb
  have c0 := X.c0
  have c1 := X.c1
  have c2 := X.c2
  have c3 := X.c3
  have c4 := X.c4
  have c5 := X.c5
  go_wp2_with fail
  clear c0 c1 c2 c3 c4 c5
  refine (loadN _ _ _ _).mono ?_
  rintro e w7 ⟨rfl, hb⟩
  replace d := d.step hb
  replace X := X.step hb
  replace O := O.step hb
  clear hb
  have c0 := X.c0
  have c1 := X.c1
  have c2 := X.c2
  have c3 := X.c3
  have c4 := X.c4
  have c5 := X.c5
  go_wp2_with fail
  clear c0 c1 c2 c3 c4 c5
  refine (seeN _ _ _ _).mono ?_
  rintro e w8 ⟨rfl, hb⟩
  replace d := d.step hb
  replace X := X.step hb
  replace O := O.step hb
  clear hb
  have c0 := X.c0
  have c1 := X.c1
  have c2 := X.c2
  have c3 := X.c3
  have c4 := X.c4
  have c5 := X.c5
  go_wp2_with fail
  clear c0 c1 c2 c3 c4 c5
  refine (barN _ _ _ _).mono ?_
  rintro e w9 ⟨rfl, hb⟩
  replace d := d.step hb
  replace X := X.step hb
  replace O := O.step hb
  clear hb
  have c0 := X.c0
  have c1 := X.c1
  have c2 := X.c2
  have c3 := X.c3
  have c4 := X.c4
  have c5 := X.c5
  go_wp2_with fail
  clear c0 c1 c2 c3 c4 c5
  refine (lockN _ _ _).mono ?_
  rintro e w10 ⟨rfl, hb⟩
  replace d := d.step hb
  replace X := X.step hb
  replace O := O.step hb
  clear hb
  have c0 := X.c0
  have c1 := X.c1
  have c2 := X.c2
  have c3 := X.c3
  have c4 := X.c4
  have c5 := X.c5
  go_wp2_with fail
  clear c0 c1 c2 c3 c4 c5
  refine (findN _ _ _ _).mono ?_
  rintro e w11 ⟨rfl, hb⟩
  replace d := d.step hb
  replace X := X.step hb
  replace O := O.step hb
  clear hb
  have c0 := X.c0
  have c1 := X.c1
  have c2 := X.c2
  have c3 := X.c3
  have c4 := X.c4
  have c5 := X.c5
  go_wp2_with fail
  clear c0 c1 c2 c3 c4 c5
  refine (freeN _ _ _ _).mono ?_
  rintro e w12 ⟨rfl, hb⟩
  replace d := d.step hb
  replace X := X.step hb
  replace O := O.step hb
  clear hb
  have c0 := X.c0
  have c1 := X.c1
  have c2 := X.c2
  have c3 := X.c3
  have c4 := X.c4
  have c5 := X.c5
  go_wp2_with fail
  clear c0 c1 c2 c3 c4 c5
  refine (commitN _ _ _ _ _).mono ?_
  rintro e w13 ⟨rfl, hb⟩
  replace d := d.step hb
  replace X := X.step hb
  replace O := O.step hb
  clear hb
  have c0 := X.c0
  have c1 := X.c1
  have c2 := X.c2
  have c3 := X.c3
  have c4 := X.c4
  have c5 := X.c5
  go_wp2_with fail
  clear c0 c1 c2 c3 c4 c5
  refine (undoN _ _ _ _).mono ?_
  rintro e w14 ⟨rfl, hb⟩
  replace d := d.step hb
  replace X := X.step hb
  replace O := O.step hb
  clear hb
  go_wp2_with fail
  go_loopw [17] (fun x wr => ∃ t : Nat, t ≤ 2 ∧ x = .int .i64 (t : Int) ∧ BelS w wr ∧ XAt wr k i s a n dd ao vs.length cap ∧ OwnM w wr mv vs) (fun x _ => 2 - (intOf x).toNat)
  case atStart => exact ⟨0, by omega, rfl, d, X, O⟩
  case round =>
    obtain ⟨t, ht, rfl, d, X, O⟩ := hrel
    by_cases h2 : t < 2
    · go_wp2_with fail
      refine (stepMakeN _).mono ?_
      rintro e u1 ⟨rfl, hb⟩
      replace d := d.step hb
      replace X := X.step hb
      replace O := O.step hb
      clear hb
      go_wp2_with fail
      refine (codeMakeN _).mono ?_
      rintro e u2 ⟨rfl, hb⟩
      replace d := d.step hb
      replace X := X.step hb
      replace O := O.step hb
      clear hb
      go_wp2_with fail
      refine (slotMakeN _).mono ?_
      rintro e u3 ⟨rfl, hb⟩
      replace d := d.step hb
      replace X := X.step hb
      replace O := O.step hb
      clear hb
      go_wp2_with fail
      refine (stepMakeN _).mono ?_
      rintro e u4 ⟨rfl, hb⟩
      replace d := d.step hb
      replace X := X.step hb
      replace O := O.step hb
      clear hb
      go_wp2_with fail
      refine (codeMakeN _).mono ?_
      rintro e u5 ⟨rfl, hb⟩
      replace d := d.step hb
      replace X := X.step hb
      replace O := O.step hb
      clear hb
      go_wp2_with fail
      refine (slotMakeN _).mono ?_
      rintro e u6 ⟨rfl, hb⟩
      replace d := d.step hb
      replace X := X.step hb
      replace O := O.step hb
      clear hb
      go_wp2_with fail
      refine (stepSeeN _).mono ?_
      rintro e u7 ⟨rfl, hb⟩
      replace d := d.step hb
      replace X := X.step hb
      replace O := O.step hb
      clear hb
      go_wp2_with fail
      refine (codeSeeN _).mono ?_
      rintro e u8 ⟨rfl, hb⟩
      replace d := d.step hb
      replace X := X.step hb
      replace O := O.step hb
      clear hb
      go_wp2_with fail
      refine (seenN _).mono ?_
      rintro e u9 ⟨rfl, hb⟩
      replace d := d.step hb
      replace X := X.step hb
      replace O := O.step hb
      clear hb
      go_wp2_with fail
      refine (stepBarN _).mono ?_
      rintro e u10 ⟨rfl, hb⟩
      replace d := d.step hb
      replace X := X.step hb
      replace O := O.step hb
      clear hb
      go_wp2_with fail
      refine (codeBarN _).mono ?_
      rintro e u11 ⟨rfl, hb⟩
      replace d := d.step hb
      replace X := X.step hb
      replace O := O.step hb
      clear hb
      go_wp2_with fail
      refine (barredN _).mono ?_
      rintro e u12 ⟨rfl, hb⟩
      replace d := d.step hb
      replace X := X.step hb
      replace O := O.step hb
      clear hb
      go_wp2_with fail
      refine (stepLockN _).mono ?_
      rintro e u13 ⟨rfl, hb⟩
      replace d := d.step hb
      replace X := X.step hb
      replace O := O.step hb
      clear hb
      go_wp2_with fail
      refine (codeLockN _).mono ?_
      rintro e u14 ⟨rfl, hb⟩
      replace d := d.step hb
      replace X := X.step hb
      replace O := O.step hb
      clear hb
      go_wp2_with fail
      refine (stepFindN _).mono ?_
      rintro e u15 ⟨rfl, hb⟩
      replace d := d.step hb
      replace X := X.step hb
      replace O := O.step hb
      clear hb
      go_wp2_with fail
      refine (codeFindN _).mono ?_
      rintro e u16 ⟨rfl, hb⟩
      replace d := d.step hb
      replace X := X.step hb
      replace O := O.step hb
      clear hb
      go_wp2_with fail
      refine (slotFindN _).mono ?_
      rintro e u17 ⟨rfl, hb⟩
      replace d := d.step hb
      replace X := X.step hb
      replace O := O.step hb
      clear hb
      go_wp2_with fail
      refine (stepFreeN _).mono ?_
      rintro e u18 ⟨rfl, hb⟩
      replace d := d.step hb
      replace X := X.step hb
      replace O := O.step hb
      clear hb
      go_wp2_with fail
      refine (codeFreeN _).mono ?_
      rintro e u19 ⟨rfl, hb⟩
      replace d := d.step hb
      replace X := X.step hb
      replace O := O.step hb
      clear hb
      go_wp2_with fail
      refine (slotFreeN _).mono ?_
      rintro e u20 ⟨rfl, hb⟩
      replace d := d.step hb
      replace X := X.step hb
      replace O := O.step hb
      clear hb
      go_wp2_with fail
      refine (stepFixN _).mono ?_
      rintro e u21 ⟨rfl, hb⟩
      replace d := d.step hb
      replace X := X.step hb
      replace O := O.step hb
      clear hb
      go_wp2_with fail
      refine (codeFixN _).mono ?_
      rintro e u22 ⟨rfl, hb⟩
      replace d := d.step hb
      replace X := X.step hb
      replace O := O.step hb
      clear hb
      go_wp2_with fail
      refine (stepFixN _).mono ?_
      rintro e u23 ⟨rfl, hb⟩
      replace d := d.step hb
      replace X := X.step hb
      replace O := O.step hb
      clear hb
      go_wp2_with fail
      refine (codeFixN _).mono ?_
      rintro e u24 ⟨rfl, hb⟩
      replace d := d.step hb
      replace X := X.step hb
      replace O := O.step hb
      clear hb
      go_wp2
      go_roundw
      case rel => exact ⟨t + 1, by omega, by go_num, d, X, O⟩
      case measure => simp [intOf]; omega
    · obtain ⟨sp, mc, rfl, hm⟩ := ownI.form O
      clear hm
      go_wp2_with fail
      go_loopw [18] (fun x wr => ∃ t : Nat, t ≤ vs.length ∧ x = .int .i64 (t : Int) ∧ BelS w wr ∧ XAt wr k i s a n dd ao vs.length cap ∧ OwnM w wr (.slice sp vs.length mc) vs) (fun x _ => vs.length - (intOf x).toNat)
      case atStart => exact ⟨0, by omega, rfl, d, X, O⟩
      case round =>
        rename_i wq _ _
        clear d X O
        obtain ⟨q, hq, rfl, d, X, O⟩ := hrel
        by_cases h3 : q < vs.length
        · obtain ⟨b, off, hao, _, hx⟩ := HS.out wr d q h3
          subst hao
          obtain ⟨sp2, mc2, he, hc⟩ := ownI.form O
          injection he with e1 e2 e3
          subst e1 e3
          clear e2
          obtain ⟨g, rfl, hy⟩ := hc q h3
          clear hc
          have c5 := X.c5
          have hq2 : q < 140737488351232 := by have := HR.out.2.2; omega
          generalize vs[q] = y at *
          go_wp2
          go_region
          all_goals (try go_wp2)
          all_goals go_roundw
          case rel => exact ⟨q + 1, by omega, by go_num, d.drew, X.drew, O.step (Below.refl _ _).drew⟩
          case measure => simp [intOf]; omega
        · go_wp2
          go_ret
          exact ⟨rfl, d⟩
end Go.Proofs.YtngkooonfldphaaGreatDoor
