import Derived.Test.YtdgkocgjihdbpaaGreatCellNil5
namespace Go.Proofs.YtdgkocgjihdbpaaGreat
open Go.ChangeShapes Go.WideShapes Go.ChangeAt Go.RowKit
set_option linter.unusedVariables false
set_option maxRecDepth 100000
set_option maxHeartbeats 3200000
theorem eqNF (w : World) : (binOp .eql 62 Value.nilFunc Value.nilFunc).run Tryz.prog w = .ok (.bool true) w := by kernel_rfl
attribute [local go_sem] eqNF in
theorem total_nil (p : Option Addr) (w : World) : Calls Tryz.prog 6 #[.pointer p, Value.nilFunc] w fun e w' => e = .returned (.int .i64 0) ∧ Below w.heap.size w w' := by
  go_enter Tryz.func6, Tryz.ntmps6
  go_wp2
  go_ret
  exact ⟨rfl, ((Below.refl _ _).alloc (Nat.le_refl _) _).alloc (by simp) _⟩
/-- In a round: the call lies at ⟨b, off⟩, the zero arena at gz. -/
structure RQ (w0 : World) (gz b off : Nat) (o : OpV) (W : World) : Prop where
  low : Below w0.heap.size w0 W
  ms : MissP (some ⟨gz, 0, none⟩) W
  op : OpAt W w0.heap.size b off o
  hb : b < w0.heap.size
theorem RQ.grow {w0 : World} {gz b off : Nat} {o : OpV} {W W' : World} (h : RQ w0 gz b off o W) (hb : Below W.heap.size W W') : RQ w0 gz b off o W' :=
  ⟨h.low.trans (hb.mono h.low.size), h.ms.later hb, h.op.later (hb.mono h.low.size) h.hb, h.hb⟩
/-- An answer in its cells. -/
structure AQ (g : Nat) (E : Int) (v : Value) (xs : List Int) (W : World) : Prop where
  r : W.heap[g]? = some (.cells #[.int .i64 E, v, .string ⟨#[]⟩] 53 (0, 0))
  lt : g < W.heap.size
  sn : SeenU W v xs
theorem AQ.grow {g : Nat} {E : Int} {v : Value} {xs : List Int} {W W' : World} (h : AQ g E v xs W) (hb : Below W.heap.size W W') : AQ g E v xs W' :=
  ⟨(hb.block g h.lt).trans h.r, Nat.lt_of_lt_of_le h.lt hb.size, h.sn.later hb⟩
theorem AQ.start {w : World} {E : Int} {v : Value} {xs : List Int} (h : SeenU w v xs) : AQ w.heap.size E v xs (w.alloc (.cells #[.int .i64 E, v, .string ⟨#[]⟩] 53)) :=
  ⟨heap_alloc_new w _, by simp, h.later ((Below.refl _ _).alloc (Nat.le_refl _) _)⟩
theorem AQ.c0 {g : Nat} {E : Int} {v : Value} {xs : List Int} {W : World} (h : AQ g E v xs W) : W.cell? ⟨g, 0, none⟩ = some (.int .i64 E) := (cell?_heap h.r 0).trans rfl
theorem AQ.c1 {g : Nat} {E : Int} {v : Value} {xs : List Int} {W : World} (h : AQ g E v xs W) : W.cell? ⟨g, 1, none⟩ = some v := (cell?_heap h.r 1).trans rfl
theorem AQ.c2 {g : Nat} {E : Int} {v : Value} {xs : List Int} {W : World} (h : AQ g E v xs W) : W.cell? ⟨g, 2, none⟩ = some (.string ⟨#[]⟩) := (cell?_heap h.r 2).trans rfl
/-- Between rounds. -/
structure LQ (w0 : World) (gz : Nat) (W : World) : Prop where
  low : Below w0.heap.size w0 W
  ms : MissP (some ⟨gz, 0, none⟩) W
theorem LQ.grow {w0 : World} {gz : Nat} {W W' : World} (h : LQ w0 gz W) (hb : Below W.heap.size W W') : LQ w0 gz W' := ⟨h.low.trans (hb.mono h.low.size), h.ms.later hb⟩
theorem LQ.start (w : World) : LQ w w.heap.size (w.alloc (.cells #[.int .i64 0, .slice none 0 0, .slice none 0 0, .int .i32 0, .int .u32 0, .int .u32 0, .int .u32 0, .int .i32 0, .int .i32 0, .int .i32 0, .int .u32 0, .slice none 0 0, .int .i64 0, .int .i64 0, .int .i64 0, .int .i64 0] 45)) :=
  ⟨(Below.refl _ _).alloc (Nat.le_refl _) _, Or.inr ⟨_, rfl, (cell?_heap (heap_alloc_new w _) 0).trans rfl, by simp⟩⟩
theorem nil_walk (ao : Option Addr) (cap : Nat) (os : List OpV) (w : World) (HO : Hid (SeesO w w.heap.size ao os ∧ ∀ o ∈ os, o.ws.length * 8 ≤ 140737488355328)) (hz : os.length ≤ 1152921504606846976) : Calls Tryz.prog 3 #[.slice ao os.length cap] w fun e w' => e = .returned (.bool true) ∧ Below w.heap.size w w' := by
  have H : Hid (LQ w w.heap.size (w.alloc (.cells #[.int .i64 0, .slice none 0 0, .slice none 0 0, .int .i32 0, .int .u32 0, .int .u32 0, .int .u32 0, .int .i32 0, .int .i32 0, .int .i32 0, .int .u32 0, .slice none 0 0, .int .i64 0, .int .i64 0, .int .i64 0, .int .i64 0] 45))) := LQ.start w
  go_enter Tryz.func3, Tryz.ntmps3
  go_wp2_with fail
  generalize hW : (w.alloc (.cells #[.int .i64 0, .slice none 0 0, .slice none 0 0, .int .i32 0, .int .u32 0, .int .u32 0, .int .u32 0, .int .i32 0, .int .i32 0, .int .i32 0, .int .u32 0, .slice none 0 0, .int .i64 0, .int .i64 0, .int .i64 0, .int .i64 0] 45)) = W at *
  clear hW
  have hgs : w.heap.size = w.heap.size := rfl
  generalize hgz : w.heap.size = gz at *
  clear hgs
  refine (arn_new 1 1 W (by omega) (by omega) (by omega) (by omega)).mono ?_
  rintro e w1 ⟨L, rfl, _, _, hb⟩
  have H1 : Hid (LQ w gz w1) := H.out.grow hb
  clear H hb
  go_wp2_with fail
  refine (num_any _ _).mono ?_
  rintro e w2 ⟨rfl, rfl⟩
  go_wp2_with fail
  refine (total_nil _ _).mono ?_
  rintro e w3 ⟨rfl, hb⟩
  have H3 : Hid (LQ w gz w3) := H1.out.grow hb
  clear H1 hb
  go_wp2_with fail
  refine (total_nil _ _).mono ?_
  rintro e w4 ⟨rfl, hb⟩
  have H4 : Hid (LQ w gz w4) := H3.out.grow hb
  clear H3 hb
  go_wp2_with fail
  go_loopw [9] (fun i wr => ∃ t : Nat, t ≤ os.length ∧ i = .int .i64 (t : Int) ∧ LQ w gz wr) (fun i _ => os.length - (intOf i).toNat)
  case atStart => exact ⟨0, by omega, rfl, H4.out⟩
  case round =>
    obtain ⟨t, ht, rfl, hQ⟩ := hrel
    have HQ : Hid (LQ w gz wr) := hQ
    clear hQ H4
    by_cases h5 : t < os.length
    · obtain ⟨b, off, rfl, hb, hop⟩ := HO.out.1 t h5
      have HL8 : Hid (os[t].ws.length * 8 ≤ 140737488355328) := HO.out.2 _ (List.getElem_mem _)
      have HR : Hid (RQ w gz b (off + t * 7) os[t] wr) := ⟨HQ.out.low, HQ.out.ms, hgz ▸ hop.later (hgz ▸ HQ.out.low) hb, hgz ▸ hb⟩
      clear hop hb HQ HO
      generalize os[t] = o at *
      have x1 : (0 : Int) ≤ (t : Int) := by omega
      have x2 : (t : Int) < (os.length : Int) := by omega
      have q0 := HR.out.op.c0
      have q1 := HR.out.op.c1
      have q2 := HR.out.op.c2
      have q3 := HR.out.op.c3
      have q4 := HR.out.op.c4
      have q5 := HR.out.op.c5
      have q6 := HR.out.op.c6
      go_wp2_with fail
      refine (ask_nil none o wr (Or.inl rfl) w.heap.size HR.out.low.size HR.out.op.ws HL8.out).mono ?_
      rintro e wA ⟨v, rfl, hv, hb⟩
      have HV : Hid (SeenU wA v (nL o.kind)) := hv.seen
      have HX : Hid (RQ w gz b (off + t * 7) o wA) := HR.out.grow hb
      clear HR hv hb
      have ev : ∃ sp n c, v = .slice sp n c := by
        obtain ⟨sp, c, e, _⟩ := HV.out
        exact ⟨sp, _, c, e⟩
      obtain ⟨s1, n1, k1, rfl⟩ := ev
      have HR : Hid (RQ w gz b (off + t * 7) o (wA.alloc (.cells #[.int .i64 (nE o.kind), .slice s1 n1 k1, .string ⟨#[]⟩] 53))) := HX.out.grow ((Below.refl _ _).alloc (Nat.le_refl _) _)
      have HA1 : Hid (AQ wA.heap.size (nE o.kind) (.slice s1 n1 k1) (nL o.kind) (wA.alloc (.cells #[.int .i64 (nE o.kind), .slice s1 n1 k1, .string ⟨#[]⟩] 53))) := AQ.start HV.out
      clear HV HX
      clear q0 q1 q2 q3 q4 q5 q6
      have q0 := HR.out.op.c0
      have q1 := HR.out.op.c1
      have q2 := HR.out.op.c2
      have q3 := HR.out.op.c3
      have q4 := HR.out.op.c4
      have q5 := HR.out.op.c5
      have q6 := HR.out.op.c6
      go_wp2_with fail
      generalize hgW : (wA.alloc (.cells #[.int .i64 (nE o.kind), .slice s1 n1 k1, .string ⟨#[]⟩] 53)) = W1 at *
      clear hgW
      generalize wA.heap.size = g1 at *
      refine (ask_nil (some ⟨gz, 0, none⟩) o W1 HR.out.ms w.heap.size HR.out.low.size HR.out.op.ws HL8.out).mono ?_
      rintro e wB ⟨v, rfl, hv, hb⟩
      have HV : Hid (SeenU wB v (nL o.kind)) := hv.seen
      have HX : Hid (RQ w gz b (off + t * 7) o wB) := HR.out.grow hb
      have HY1 : Hid (AQ g1 (nE o.kind) (.slice s1 n1 k1) (nL o.kind) wB) := HA1.out.grow hb
      clear HR hv hb
      clear HA1
      have ev : ∃ sp n c, v = .slice sp n c := by
        obtain ⟨sp, c, e, _⟩ := HV.out
        exact ⟨sp, _, c, e⟩
      obtain ⟨s2, n2, k2, rfl⟩ := ev
      have HR : Hid (RQ w gz b (off + t * 7) o (wB.alloc (.cells #[.int .i64 (nE o.kind), .slice s2 n2 k2, .string ⟨#[]⟩] 53))) := HX.out.grow ((Below.refl _ _).alloc (Nat.le_refl _) _)
      have HA2 : Hid (AQ wB.heap.size (nE o.kind) (.slice s2 n2 k2) (nL o.kind) (wB.alloc (.cells #[.int .i64 (nE o.kind), .slice s2 n2 k2, .string ⟨#[]⟩] 53))) := AQ.start HV.out
      have HA1 : Hid (AQ g1 (nE o.kind) (.slice s1 n1 k1) (nL o.kind) (wB.alloc (.cells #[.int .i64 (nE o.kind), .slice s2 n2 k2, .string ⟨#[]⟩] 53))) := HY1.out.grow ((Below.refl _ _).alloc (Nat.le_refl _) _)
      clear HY1
      clear HV HX
      clear q0 q1 q2 q3 q4 q5 q6
      have q0 := HR.out.op.c0
      have q1 := HR.out.op.c1
      have q2 := HR.out.op.c2
      have q3 := HR.out.op.c3
      have q4 := HR.out.op.c4
      have q5 := HR.out.op.c5
      have q6 := HR.out.op.c6
      go_wp2_with fail
      generalize hgW : (wB.alloc (.cells #[.int .i64 (nE o.kind), .slice s2 n2 k2, .string ⟨#[]⟩] 53)) = W2 at *
      clear hgW
      generalize wB.heap.size = g2 at *
      refine (doc_nil o W2).mono ?_
      rintro e wC ⟨v, rfl, hv, hb⟩
      have HV : Hid (SeenU wC v (nL o.kind)) := hv.seen
      have HX : Hid (RQ w gz b (off + t * 7) o wC) := HR.out.grow hb
      have HY1 : Hid (AQ g1 (nE o.kind) (.slice s1 n1 k1) (nL o.kind) wC) := HA1.out.grow hb
      have HY2 : Hid (AQ g2 (nE o.kind) (.slice s2 n2 k2) (nL o.kind) wC) := HA2.out.grow hb
      clear HR hv hb
      clear HA1
      clear HA2
      have ev : ∃ sp n c, v = .slice sp n c := by
        obtain ⟨sp, c, e, _⟩ := HV.out
        exact ⟨sp, _, c, e⟩
      obtain ⟨s3, n3, k3, rfl⟩ := ev
      have HR : Hid (RQ w gz b (off + t * 7) o (wC.alloc (.cells #[.int .i64 (nE o.kind), .slice s3 n3 k3, .string ⟨#[]⟩] 53))) := HX.out.grow ((Below.refl _ _).alloc (Nat.le_refl _) _)
      have HA3 : Hid (AQ wC.heap.size (nE o.kind) (.slice s3 n3 k3) (nL o.kind) (wC.alloc (.cells #[.int .i64 (nE o.kind), .slice s3 n3 k3, .string ⟨#[]⟩] 53))) := AQ.start HV.out
      have HA1 : Hid (AQ g1 (nE o.kind) (.slice s1 n1 k1) (nL o.kind) (wC.alloc (.cells #[.int .i64 (nE o.kind), .slice s3 n3 k3, .string ⟨#[]⟩] 53))) := HY1.out.grow ((Below.refl _ _).alloc (Nat.le_refl _) _)
      have HA2 : Hid (AQ g2 (nE o.kind) (.slice s2 n2 k2) (nL o.kind) (wC.alloc (.cells #[.int .i64 (nE o.kind), .slice s3 n3 k3, .string ⟨#[]⟩] 53))) := HY2.out.grow ((Below.refl _ _).alloc (Nat.le_refl _) _)
      clear HY1
      clear HY2
      clear HV HX
      clear q0 q1 q2 q3 q4 q5 q6
      have q0 := HR.out.op.c0
      have q1 := HR.out.op.c1
      have q2 := HR.out.op.c2
      have q3 := HR.out.op.c3
      have q4 := HR.out.op.c4
      have q5 := HR.out.op.c5
      have q6 := HR.out.op.c6
      have a0 := HA1.out.c0
      have a1 := HA1.out.c1
      have a2 := HA1.out.c2
      have d0 := HA3.out.c0
      have d1 := HA3.out.c1
      have d2 := HA3.out.c2
      go_wp2_with fail
      generalize hgW : (wC.alloc (.cells #[.int .i64 (nE o.kind), .slice s3 n3 k3, .string ⟨#[]⟩] 53)) = W3 at *
      clear hgW
      generalize wC.heap.size = g3 at *
      clear q0 q1 q2 q3 q4 q5 q6
      refine (same_seen _ _ _ (nL o.kind) _ (by have := nL_len o.kind; omega) HA1.out.sn HA3.out.sn).mono ?_
      rintro e wD ⟨rfl, hb⟩
      have HD : Hid (RQ w gz b (off + t * 7) o wD) := HR.out.grow hb
      have HD2 : Hid (AQ g2 (nE o.kind) (.slice s2 n2 k2) (nL o.kind) wD) := HA2.out.grow hb
      have HD3 : Hid (AQ g3 (nE o.kind) (.slice s3 n3 k3) (nL o.kind) wD) := HA3.out.grow hb
      clear HR HA1 HA2 HA3 hb a0 a1 a2 d0 d1 d2
      have a0 := HD2.out.c0
      have a1 := HD2.out.c1
      have a2 := HD2.out.c2
      have d0 := HD3.out.c0
      have d1 := HD3.out.c1
      have d2 := HD3.out.c2
      go_wp2_with fail
      refine (same_seen _ _ _ (nL o.kind) _ (by have := nL_len o.kind; omega) HD2.out.sn HD3.out.sn).mono ?_
      rintro e wE ⟨rfl, hb⟩
      have HE : Hid (RQ w gz b (off + t * 7) o wE) := HD.out.grow hb
      clear HD HD2 HD3 hb a0 a1 a2 d0 d1 d2
      go_wp2
      go_roundw
      case rel => exact ⟨t + 1, by omega, by go_num, HE.out.low, HE.out.ms⟩
      case measure => simp [intOf]; omega
    · go_wp2
      go_ret
      exact ⟨rfl, hgz ▸ HQ.out.low⟩
end Go.Proofs.YtdgkocgjihdbpaaGreat
