import Derived.Test.YtljdjaapocmppaaGreatDoorRdNilE
namespace Go.Proofs.YtljdjaapocmppaaGreatDoor
open Go.ChangeShapes Go.WideShapes Go.ChangeAt Go.RowKit
set_option linter.unusedVariables false
set_option maxRecDepth 100000
set_option maxHeartbeats 12800000 in
theorem nothing_any (k : Int) (nm to : ByteArray) (i : Int) (ao : Option Addr) (cap : Nat) (l bt : Int) (pa : Option Addr) (pn pc : Nat) (us : List Int) (w : World) (hs : SeesN w w.heap.size ao us) (hroom : us.length * 8 ≤ 140737488351232) :
    Calls Tryz.prog 22 #[.agg #[.int .i64 k, .string nm, .string to, .int .i64 i, .slice ao us.length cap, .int .u64 l, .int .i64 bt, .slice pa pn pc]] w fun e w' => e = .returned (.int .i64 1) ∧ Below w.heap.size w w' := by
  have HR : Hid (us.length * 8 ≤ 140737488351232) := hroom
  have X := RN_start k nm to i ao cap l bt pa pn pc us w hs
  have HX : Hid (RN w ao us nm to i l bt (.slice ao us.length cap) (w.alloc (.cells #[.int .i64 k, .string nm, .string to, .int .i64 i, .slice ao us.length cap, .int .u64 l, .int .i64 bt, .slice pa pn pc] 26))) := X
  have HO : Hid (ownE (w.alloc (.cells #[.int .i64 k, .string nm, .string to, .int .i64 i, .slice ao us.length cap, .int .u64 l, .int .i64 bt, .slice pa pn pc] 26)) (w.heap.size + 1) (.slice none 0 0) []) := ownE_nil _ _
  clear hroom hs X
  go_enter Tryz.func22, Tryz.ntmps22
  go_wp2_with fail
  generalize w.alloc (.cells #[.int .i64 k, .string nm, .string to, .int .i64 i, .slice ao us.length cap, .int .u64 l, .int .i64 bt, .slice pa pn pc] 26) = W at *
  refine (createN none _ _ (.inl rfl)).mono ?_
  rintro e wA ⟨rfl, hb⟩
  have HXa : Hid (RN w ao us nm to i l bt (.slice ao us.length cap) wA) := RN.step hb HX.out
  have HOa : Hid (ownE wA (w.heap.size + 1) (.slice none 0 0) []) := HO.out.later hb
  have hza := RN.size HXa.out
  clear hb HX HO
  go_wp2_with (at_builtin; refine app_errR (by rfl) _ _ (by rfl) (w.heap.size + 1) _ [] 1 HOa.out (by rfl) (by rfl) (by simp) hza ?_; intro v0 W0 hown hbel; have HX : Hid (RN w ao us nm to i l bt (.slice ao us.length cap) W0) := RN.stepB hbel HXa.out; have HO : Hid (ownE W0 (w.heap.size + 1) v0 [1]) := hown; have c1 := HX.out.1; have c2 := HX.out.2.1; have c3 := HX.out.2.2.1; have c4 := HX.out.2.2.2.1; have c5 := HX.out.2.2.2.2.1; clear hown hbel HXa HOa hza)
  clear c1 c2 c3 c4 c5
  refine (appendN none _ _ _ (.inl rfl)).mono ?_
  rintro e wA ⟨rfl, hb⟩
  have HXa : Hid (RN w ao us nm to i l bt (.slice ao us.length cap) wA) := RN.step hb HX.out
  have HOa : Hid (ownE wA (w.heap.size + 1) v0 [1]) := HO.out.later hb
  have hza := RN.size HXa.out
  clear hb HX HO
  go_wp2_with (at_builtin; refine app_errR (by rfl) _ _ (by rfl) (w.heap.size + 1) _ [1] 1 HOa.out (by rfl) (by rfl) (by simp) hza ?_; intro v1 W1 hown hbel; have HX : Hid (RN w ao us nm to i l bt (.slice ao us.length cap) W1) := RN.stepB hbel HXa.out; have HO : Hid (ownE W1 (w.heap.size + 1) v1 [1, 1]) := hown; have c1 := HX.out.1; have c2 := HX.out.2.1; have c3 := HX.out.2.2.1; have c4 := HX.out.2.2.2.1; have c5 := HX.out.2.2.2.2.1; clear hown hbel HXa HOa hza)
  clear c1 c2 c3 c4 c5
  refine (syncN none _ _ (.inl rfl)).mono ?_
  rintro e wA ⟨rfl, hb⟩
  have HXa : Hid (RN w ao us nm to i l bt (.slice ao us.length cap) wA) := RN.step hb HX.out
  have HOa : Hid (ownE wA (w.heap.size + 1) v1 [1, 1]) := HO.out.later hb
  have hza := RN.size HXa.out
  clear hb HX HO
  go_wp2_with (at_builtin; refine app_errR (by rfl) _ _ (by rfl) (w.heap.size + 1) _ [1, 1] 1 HOa.out (by rfl) (by rfl) (by simp) hza ?_; intro v2 W2 hown hbel; have HX : Hid (RN w ao us nm to i l bt (.slice ao us.length cap) W2) := RN.stepB hbel HXa.out; have HO : Hid (ownE W2 (w.heap.size + 1) v2 [1, 1, 1]) := hown; have c1 := HX.out.1; have c2 := HX.out.2.1; have c3 := HX.out.2.2.1; have c4 := HX.out.2.2.2.1; have c5 := HX.out.2.2.2.2.1; clear hown hbel HXa HOa hza)
  clear c1 c2 c3 c4 c5
  refine (renameN none _ _ _ (.inl rfl)).mono ?_
  rintro e wA ⟨rfl, hb⟩
  have HXa : Hid (RN w ao us nm to i l bt (.slice ao us.length cap) wA) := RN.step hb HX.out
  have HOa : Hid (ownE wA (w.heap.size + 1) v2 [1, 1, 1]) := HO.out.later hb
  have hza := RN.size HXa.out
  clear hb HX HO
  go_wp2_with (at_builtin; refine app_errR (by rfl) _ _ (by rfl) (w.heap.size + 1) _ [1, 1, 1] 1 HOa.out (by rfl) (by rfl) (by simp) hza ?_; intro v3 W3 hown hbel; have HX : Hid (RN w ao us nm to i l bt (.slice ao us.length cap) W3) := RN.stepB hbel HXa.out; have HO : Hid (ownE W3 (w.heap.size + 1) v3 [1, 1, 1, 1]) := hown; have c1 := HX.out.1; have c2 := HX.out.2.1; have c3 := HX.out.2.2.1; have c4 := HX.out.2.2.2.1; have c5 := HX.out.2.2.2.2.1; clear hown hbel HXa HOa hza)
  clear c1 c2 c3 c4 c5
  refine (removeN none _ _ (.inl rfl)).mono ?_
  rintro e wA ⟨rfl, hb⟩
  have HXa : Hid (RN w ao us nm to i l bt (.slice ao us.length cap) wA) := RN.step hb HX.out
  have HOa : Hid (ownE wA (w.heap.size + 1) v3 [1, 1, 1, 1]) := HO.out.later hb
  have hza := RN.size HXa.out
  clear hb HX HO
  go_wp2_with (at_builtin; refine app_errR (by rfl) _ _ (by rfl) (w.heap.size + 1) _ [1, 1, 1, 1] 1 HOa.out (by rfl) (by rfl) (by simp) hza ?_; intro v4 W4 hown hbel; have HX : Hid (RN w ao us nm to i l bt (.slice ao us.length cap) W4) := RN.stepB hbel HXa.out; have HO : Hid (ownE W4 (w.heap.size + 1) v4 [1, 1, 1, 1, 1]) := hown; have c1 := HX.out.1; have c2 := HX.out.2.1; have c3 := HX.out.2.2.1; have c4 := HX.out.2.2.2.1; have c5 := HX.out.2.2.2.2.1; clear hown hbel HXa HOa hza)
  clear c1 c2 c3 c4 c5
  refine (syncDirN none _ (.inl rfl)).mono ?_
  rintro e wA ⟨rfl, hb⟩
  have HXa : Hid (RN w ao us nm to i l bt (.slice ao us.length cap) wA) := RN.step hb HX.out
  have HOa : Hid (ownE wA (w.heap.size + 1) v4 [1, 1, 1, 1, 1]) := HO.out.later hb
  have hza := RN.size HXa.out
  clear hb HX HO
  go_wp2_with (at_builtin; refine app_errR (by rfl) _ _ (by rfl) (w.heap.size + 1) _ [1, 1, 1, 1, 1] 1 HOa.out (by rfl) (by rfl) (by simp) hza ?_; intro v5 W5 hown hbel; have HX : Hid (RN w ao us nm to i l bt (.slice ao us.length cap) W5) := RN.stepB hbel HXa.out; have HO : Hid (ownE W5 (w.heap.size + 1) v5 [1, 1, 1, 1, 1, 1]) := hown; have c1 := HX.out.1; have c2 := HX.out.2.1; have c3 := HX.out.2.2.1; have c4 := HX.out.2.2.2.1; have c5 := HX.out.2.2.2.2.1; clear hown hbel HXa HOa hza)
  clear c1 c2 c3 c4 c5
  refine (cutN none _ _ (.inl rfl)).mono ?_
  rintro e wA ⟨rfl, hb⟩
  have HXa : Hid (RN w ao us nm to i l bt (.slice ao us.length cap) wA) := RN.step hb HX.out
  have HOa : Hid (ownE wA (w.heap.size + 1) v5 [1, 1, 1, 1, 1, 1]) := HO.out.later hb
  have hza := RN.size HXa.out
  clear hb HX HO
  go_wp2_with (at_builtin; refine app_errR (by rfl) _ _ (by rfl) (w.heap.size + 1) _ [1, 1, 1, 1, 1, 1] 1 HOa.out (by rfl) (by rfl) (by simp) hza ?_; intro v6 W6 hown hbel; have HX : Hid (RN w ao us nm to i l bt (.slice ao us.length cap) W6) := RN.stepB hbel HXa.out; have HO : Hid (ownE W6 (w.heap.size + 1) v6 [1, 1, 1, 1, 1, 1, 1]) := hown; have c1 := HX.out.1; have c2 := HX.out.2.1; have c3 := HX.out.2.2.1; have c4 := HX.out.2.2.2.1; have c5 := HX.out.2.2.2.2.1; clear hown hbel HXa HOa hza)
  have X := RO.mk HX.out HO.out
  clear c1 c2 c3 c4 c5
  clear HX HO
  go_region_held3 (fun W' => W'.cell? ⟨w.heap.size, 1, none⟩ = some (.string nm) ∧ W'.cell? ⟨w.heap.size, 2, none⟩ = some (.string to) ∧ W'.cell? ⟨w.heap.size, 3, none⟩ = some (.int .i64 i) ∧ W'.cell? ⟨w.heap.size, 4, none⟩ = some (.slice ao us.length cap) ∧ W'.cell? ⟨w.heap.size, 5, none⟩ = some (.int .u64 l) ∧ W'.cell? ⟨w.heap.size, 6, none⟩ = some (.int .i64 bt) ∧ Hid (RS w w.heap.size none none ao us W' ∧ ownE W' (w.heap.size + 1) v6 [1, 1, 1, 1, 1, 1, 1])) (first | assumption | exact RO.drew (by assumption)) (first | (go_at_call 19; refine (copied_any _ _ _ _ _ (RC.rs (RO.rn (by assumption))).b.size (RC.rs (RO.rn (by assumption))).s HR.out).mono ?_; rintro e w1 ⟨v1, rfl, hb⟩; have hS := RO.step hb (by assumption); clear hb) | (go_at_call 18; refine (crashN none _ _ _ (.inl rfl)).mono ?_; rintro e w1 ⟨rfl, hb⟩; have hS := RO.step hb (by assumption); clear hb))
  have X8 : RO w ao us nm to i l bt (.slice ao us.length cap) v6 [1, 1, 1, 1, 1, 1, 1] w1 := by assumption
  have HXa : Hid (RN w ao us nm to i l bt (.slice ao us.length cap) w1) := RO.rn X8
  have HOa : Hid (ownE w1 (w.heap.size + 1) v6 [1, 1, 1, 1, 1, 1, 1]) := RO.own X8
  have hza := RN.size HXa.out
  clear X8
  go_wp2_with (at_builtin; refine app_errR (by rfl) _ _ (by rfl) (w.heap.size + 1) _ [1, 1, 1, 1, 1, 1, 1] 1 HOa.out (by rfl) (by rfl) (by simp) hza ?_; intro v7 W7 hown hbel; have HX : Hid (RN w ao us nm to i l bt (.slice ao us.length cap) W7) := RN.stepB hbel HXa.out; have HO : Hid (ownE W7 (w.heap.size + 1) v7 [1, 1, 1, 1, 1, 1, 1, 1]) := hown; have c1 := HX.out.1; have c2 := HX.out.2.1; have c3 := HX.out.2.2.1; have c4 := HX.out.2.2.2.1; have c5 := HX.out.2.2.2.2.1; clear hown hbel HXa HOa hza)
  clear c1 c2 c3 c4 c5
  refine (rotN none _ _ _ _ (.inl rfl)).mono ?_
  rintro e wA ⟨rfl, hb⟩
  have HXa : Hid (RN w ao us nm to i l bt (.slice ao us.length cap) wA) := RN.step hb HX.out
  have HOa : Hid (ownE wA (w.heap.size + 1) v7 [1, 1, 1, 1, 1, 1, 1, 1]) := HO.out.later hb
  have hza := RN.size HXa.out
  clear hb HX HO
  go_wp2_with (at_builtin; refine app_errR (by rfl) _ _ (by rfl) (w.heap.size + 1) _ [1, 1, 1, 1, 1, 1, 1, 1] 1 HOa.out (by rfl) (by rfl) (by simp) hza ?_; intro v8 W8 hown hbel; have HX : Hid (RN w ao us nm to i l bt (.slice ao us.length cap) W8) := RN.stepB hbel HXa.out; have HO : Hid (ownE W8 (w.heap.size + 1) v8 [1, 1, 1, 1, 1, 1, 1, 1, 1]) := hown; have c1 := HX.out.1; have c2 := HX.out.2.1; have c3 := HX.out.2.2.1; have c4 := HX.out.2.2.2.1; have c5 := HX.out.2.2.2.2.1; clear hown hbel HXa HOa hza)
  clear c1 c2 c3 c4 c5
  refine (lappendN none _ _ _ (.inl rfl)).mono ?_
  rintro e wA ⟨rfl, hb⟩
  have HXa : Hid (RN w ao us nm to i l bt (.slice ao us.length cap) wA) := RN.step hb HX.out
  have HOa : Hid (ownE wA (w.heap.size + 1) v8 [1, 1, 1, 1, 1, 1, 1, 1, 1]) := HO.out.later hb
  have hza := RN.size HXa.out
  clear hb HX HO
  go_wp2_with (at_builtin; refine app_errR (by rfl) _ _ (by rfl) (w.heap.size + 1) _ [1, 1, 1, 1, 1, 1, 1, 1, 1] 1 HOa.out (by rfl) (by rfl) (by simp) hza ?_; intro v9 W9 hown hbel; have HX : Hid (RN w ao us nm to i l bt (.slice ao us.length cap) W9) := RN.stepB hbel HXa.out; have HO : Hid (ownE W9 (w.heap.size + 1) v9 [1, 1, 1, 1, 1, 1, 1, 1, 1, 1]) := hown; have c1 := HX.out.1; have c2 := HX.out.2.1; have c3 := HX.out.2.2.1; have c4 := HX.out.2.2.2.1; have c5 := HX.out.2.2.2.2.1; clear hown hbel HXa HOa hza)
  clear c1 c2 c3 c4 c5
  refine (flushN none _ (.inl rfl)).mono ?_
  rintro e wA ⟨rfl, hb⟩
  have HXa : Hid (RN w ao us nm to i l bt (.slice ao us.length cap) wA) := RN.step hb HX.out
  have HOa : Hid (ownE wA (w.heap.size + 1) v9 [1, 1, 1, 1, 1, 1, 1, 1, 1, 1]) := HO.out.later hb
  have hza := RN.size HXa.out
  clear hb HX HO
  go_wp2_with (at_builtin; refine app_errR (by rfl) _ _ (by rfl) (w.heap.size + 1) _ [1, 1, 1, 1, 1, 1, 1, 1, 1, 1] 1 HOa.out (by rfl) (by rfl) (by simp) hza ?_; intro v10 W10 hown hbel; have HX : Hid (RN w ao us nm to i l bt (.slice ao us.length cap) W10) := RN.stepB hbel HXa.out; have HO : Hid (ownE W10 (w.heap.size + 1) v10 [1, 1, 1, 1, 1, 1, 1, 1, 1, 1, 1]) := hown; have c1 := HX.out.1; have c2 := HX.out.2.1; have c3 := HX.out.2.2.1; have c4 := HX.out.2.2.2.1; have c5 := HX.out.2.2.2.2.1; clear hown hbel HXa HOa hza)
  clear c1 c2 c3 c4 c5
  refine (lsyncN none _ (.inl rfl)).mono ?_
  rintro e wA ⟨rfl, hb⟩
  have HXa : Hid (RN w ao us nm to i l bt (.slice ao us.length cap) wA) := RN.step hb HX.out
  have HOa : Hid (ownE wA (w.heap.size + 1) v10 [1, 1, 1, 1, 1, 1, 1, 1, 1, 1, 1]) := HO.out.later hb
  have hza := RN.size HXa.out
  clear hb HX HO
  go_wp2_with (at_builtin; refine app_errR (by rfl) _ _ (by rfl) (w.heap.size + 1) _ [1, 1, 1, 1, 1, 1, 1, 1, 1, 1, 1] 1 HOa.out (by rfl) (by rfl) (by simp) hza ?_; intro v11 W11 hown hbel; have HX : Hid (RN w ao us nm to i l bt (.slice ao us.length cap) W11) := RN.stepB hbel HXa.out; have HO : Hid (ownE W11 (w.heap.size + 1) v11 [1, 1, 1, 1, 1, 1, 1, 1, 1, 1, 1, 1]) := hown; have c1 := HX.out.1; have c2 := HX.out.2.1; have c3 := HX.out.2.2.1; have c4 := HX.out.2.2.2.1; have c5 := HX.out.2.2.2.2.1; clear hown hbel HXa HOa hza)
  clear c1 c2 c3 c4 c5
  refine (markN none _ _ (.inl rfl)).mono ?_
  rintro e wA ⟨rfl, hb⟩
  have HXa : Hid (RN w ao us nm to i l bt (.slice ao us.length cap) wA) := RN.step hb HX.out
  have HOa : Hid (ownE wA (w.heap.size + 1) v11 [1, 1, 1, 1, 1, 1, 1, 1, 1, 1, 1, 1]) := HO.out.later hb
  have hza := RN.size HXa.out
  clear hb HX HO
  go_wp2_with (at_builtin; refine app_errR (by rfl) _ _ (by rfl) (w.heap.size + 1) _ [1, 1, 1, 1, 1, 1, 1, 1, 1, 1, 1, 1] 1 HOa.out (by rfl) (by rfl) (by simp) hza ?_; intro v12 W12 hown hbel; have HX : Hid (RN w ao us nm to i l bt (.slice ao us.length cap) W12) := RN.stepB hbel HXa.out; have HO : Hid (ownE W12 (w.heap.size + 1) v12 [1, 1, 1, 1, 1, 1, 1, 1, 1, 1, 1, 1, 1]) := hown; have c1 := HX.out.1; have c2 := HX.out.2.1; have c3 := HX.out.2.2.1; have c4 := HX.out.2.2.2.1; have c5 := HX.out.2.2.2.2.1; clear hown hbel HXa HOa hza)
  clear c1 c2 c3 c4 c5
  refine (trimN none _ _ (.inl rfl)).mono ?_
  rintro e wA ⟨rfl, hb⟩
  have HXa : Hid (RN w ao us nm to i l bt (.slice ao us.length cap) wA) := RN.step hb HX.out
  have HOa : Hid (ownE wA (w.heap.size + 1) v12 [1, 1, 1, 1, 1, 1, 1, 1, 1, 1, 1, 1, 1]) := HO.out.later hb
  have hza := RN.size HXa.out
  clear hb HX HO
  go_wp2_with (at_builtin; refine app_errR (by rfl) _ _ (by rfl) (w.heap.size + 1) _ [1, 1, 1, 1, 1, 1, 1, 1, 1, 1, 1, 1, 1] 1 HOa.out (by rfl) (by rfl) (by simp) hza ?_; intro v13 W13 hown hbel; have HX : Hid (RN w ao us nm to i l bt (.slice ao us.length cap) W13) := RN.stepB hbel HXa.out; have HO : Hid (ownE W13 (w.heap.size + 1) v13 [1, 1, 1, 1, 1, 1, 1, 1, 1, 1, 1, 1, 1, 1]) := hown; have c1 := HX.out.1; have c2 := HX.out.2.1; have c3 := HX.out.2.2.1; have c4 := HX.out.2.2.2.1; have c5 := HX.out.2.2.2.2.1; clear hown hbel HXa HOa hza)
  clear c1 c2 c3 c4 c5
  refine (nextN none _ (.inl rfl)).mono ?_
  rintro e wA ⟨rfl, hb⟩
  have HXa : Hid (RN w ao us nm to i l bt (.slice ao us.length cap) wA) := RN.step hb HX.out
  have HOa : Hid (ownE wA (w.heap.size + 1) v13 [1, 1, 1, 1, 1, 1, 1, 1, 1, 1, 1, 1, 1, 1]) := HO.out.later hb
  clear hb HX HO
  go_wp2_with fail
  refine (durableN none _ (.inl rfl)).mono ?_
  rintro e wB ⟨rfl, hb⟩
  have HBl : Hid (Below w.heap.size w wB) := (RC.rs (RN.step hb HXa.out)).b
  obtain ⟨sp, cp, rfl, hcs⟩ := (HOa.out.later hb).form
  have HC : Hid _ := hcs
  clear hb HXa HOa hcs
  go_wp2_with fail
  go_loopw [7] (fun x wr => wr = wB ∧ ∃ q : Nat, q ≤ 14 ∧ x = .int .i64 q) (fun x _ => 14 - (intOf x).toNat)
  case atStart => exact ⟨rfl, 0, by omega, rfl⟩
  case round =>
    obtain ⟨rfl, q, hq, rfl⟩ := hrel
    by_cases h1 : q < 14
    · obtain ⟨g, e1, hc⟩ := HC.out q h1
      subst e1
      have hone : ([1, 1, 1, 1, 1, 1, 1, 1, 1, 1, 1, 1, 1, 1] : List Int)[q]'h1 = 1 := by
        match q, h1 with
        | 0, _ => rfl | 1, _ => rfl | 2, _ => rfl | 3, _ => rfl | 4, _ => rfl | 5, _ => rfl | 6, _ => rfl | 7, _ => rfl | 8, _ => rfl | 9, _ => rfl | 10, _ => rfl | 11, _ => rfl | 12, _ => rfl | 13, _ => rfl
      rw [hone] at hc
      clear hone
      have HN : Hid (∀ W, Calls Tryz.prog 21 #[.int .i64 1] W fun e w' => e = .returned (.int .i64 1) ∧ w' = W) := fun W => num_any 1 W
      go_wp2_with fail
      refine (HN.out _).mono ?_
      rintro e wC ⟨rfl, rfl⟩
      go_wp2
      go_roundw
      case rel => exact ⟨by first | trivial | rfl, q + 1, by omega, by go_num⟩
      case measure => simp [intOf]; omega
    · have e : q = 14 := by omega
      subst e
      go_wp2
      go_ret
      exact ⟨rfl, HBl.out⟩
end Go.Proofs.YtljdjaapocmppaaGreatDoor
