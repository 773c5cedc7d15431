import Derived.Test.YtdjklcmkcccpeaaGreatReW
import Derived.Test.YtdjklcmkcccpeaaGreatCells3E
import Derived.Test.YtdjklcmkcccpeaaGreatRowE
import Derived.Test.YtdjklcmkcccpeaaGreatRows
import Derived.Deep.Slices
import Derived.SizedLaws
import Derived.ChangeOld
import Derived.OpenShut
namespace Go.Proofs.YtdjklcmkcccpeaaGreat
open Go.ChangeShapes Go.WideShapes Go.ChangeAt Go.RowKit Go.MuLone Go.RwLone
set_option linter.unusedVariables false
set_option maxRecDepth 100000
set_option maxHeartbeats 6400000
def vO (v : Value) : List Value := [v]
theorem flat_vO (vs : List Value) : vs.flatMap vO = vs.map (fun v => v) := by
  induction vs with
  | nil => rfl
  | cons v vs ih => rw [List.flatMap_cons, ih]; rfl
theorem infoSlI : (Tryz.prog.info? 31).map (fun i => (i.zero, i.size, i.bytes)) = some (some (.slice none 0 0), 1, 24) := by kernel_rfl
/-- The lists asked for, so far. -/
structure Kp4 (w wr : World) (B wb : Nat) (hold : Int) (l : WL) (qv av : Value) (s : WS) (kv : Value) (N : Nat) (R : Nat → RwD) (z : Nat → List Int) : Prop where
  st : St4 wr B wb hold l qv av s
  kL : Keeps l.L.has w wr
  ok : OwG vO 31 1 wr w.heap.size kv ((List.range N).map (fun m => (R m).v))
  o : ∀ m, m < N → OwI wr w.heap.size (R m).v (z m) ∧ (z m).length = (R m).n ∧ (z m).length ≤ 4096
  d : ∀ m m', m < N → m' < N → m ≠ m' → ∀ x, (R m).v.ownBlock = some x → (R m').v.ownBlock ≠ some x
theorem Kp4.drew {w wr : World} {B wb : Nat} {hold : Int} {l : WL} {qv av : Value} {s : WS} {kv : Value} {N : Nat} {R : Nat → RwD} {z : Nat → List Int} (h : Kp4 w wr B wb hold l qv av s kv N R z) : Kp4 w wr.drew B wb hold l qv av s kv N R z :=
  ⟨h.st.keeps (Keeps.refl (fun _ => False) _).drew (fun _ _ e => e), h.kL.drew, owK h.ok (Keeps.refl (fun _ => False) _).drew (fun _ _ e => e), fun m hm => ⟨owK (h.o m hm).1 (Keeps.refl (fun _ => False) _).drew (fun _ _ e => e), (h.o m hm).2⟩, h.d⟩
/-- One list more. -/
theorem Kp4.next {w wr w2 w3 : World} {B wb : Nat} {hold : Int} {l : WL} {qv av : Value} {s : WS} {kv kv' : Value} {N : Nat} {R : Nat → RwD} {z : Nat → List Int} (h : Kp4 w wr B wb hold l qv av s kv N R z) (h0 : St4 w B wb hold l qv av s) (hB : B ≤ w.heap.size) {a : Option Addr} {n c : Nat} {xs : List Int} (ha : Arn w2 l.L s.Q s.S) (k : Keeps l.L.has wr w2) (o : OwI w2 wr.heap.size (.slice a n c) xs) (hn : xs.length = n) (hl : xs.length ≤ 4096)
    (ok : OwG vO 31 1 w3 w.heap.size kv' ((List.range N).map (fun m => (R m).v) ++ [.slice a n c])) (b3 : Below w.heap.size w2 w3) (k3 : KpT 31 w2 w3) : Kp4 w w3 B wb hold l qv av s kv' (N + 1) (upd R N ⟨a, n, c⟩) (upd z N xs) := by
  have hlt : ∀ g, l.L.has g → g < w.heap.size := fun g hg => h0.b.lt g (.inl (.inl hg))
  have hs := h.kL.size
  have st2 := h.st.arn ha k (Nat.le_trans hB hs)
  have kb : Keeps (fun g => w.heap.size ≤ g) w2 w3 := ⟨b3.os, b3.tape, b3.output, b3.size, fun x _ hn => b3.block x (by omega)⟩
  have kall : Keeps l.L.has w w3 := ⟨b3.os.trans (h.kL.trans k).os, b3.tape.trans (h.kL.trans k).tape, b3.output.trans (h.kL.trans k).output, Nat.le_trans (h.kL.trans k).size b3.size, fun x hx hne => (b3.block x hx).trans ((h.kL.trans k).block x hx hne)⟩
  have old : ∀ m, m < N → OwI w3 w.heap.size (R m).v (z m) := fun m hm => (owK (h.o m hm).1 k (fun g hg e => by have := (World.ownsRow.lt (h.o m hm).1 g hg).1; have := hlt g e; omega)).kept k3 (by decide)
  have new : OwI w3 w.heap.size (.slice a n c) xs := (o.down hs).kept k3 (by decide)
  have nb : ∀ x, (Value.slice a n c).ownBlock = some x → wr.heap.size ≤ x := fun x hx => (World.ownsRow.lt o x hx).1
  have ob : ∀ m, m < N → ∀ x, (R m).v.ownBlock = some x → x < wr.heap.size := fun m hm x hx => (World.ownsRow.lt (h.o m hm).1 x hx).2
  refine ⟨st2.keeps kb (fun g hg e => by have := (h0.low g hg).2; omega), kall, ?_, fun m hm => ?_, fun m m' hm hm' hne x hx => ?_⟩
  · have e : (List.range (N + 1)).map (fun m => (upd R N ⟨a, n, c⟩ m).v) = (List.range N).map (fun m => (R m).v) ++ [.slice a n c] := by
      rw [List.range_succ, List.map_append]
      congr 1
      · refine List.map_congr_left (fun m hm => ?_)
        have := List.mem_range.1 hm
        rw [upd_other _ _ (by omega)]
      · show [(upd R N ⟨a, n, c⟩ N).v] = _
        rw [upd_same]
    rw [e]
    exact ok
  · by_cases e : m = N
    · subst e
      rw [upd_same, upd_same]
      exact ⟨new, hn, hl⟩
    · rw [upd_other _ _ e, upd_other _ _ e]
      exact ⟨old m (by omega), (h.o m (by omega)).2⟩
  · by_cases e : m = N
    · subst e
      rw [upd_same] at hx
      rw [upd_other _ _ (fun e => hne e.symm)]
      intro e2
      have := nb x hx
      have := ob m' (by omega) x e2
      omega
    · rw [upd_other _ _ e] at hx
      by_cases e' : m' = N
      · subst e'
        rw [upd_same]
        intro e2
        have := nb x e2
        have := ob m (by omega) x hx
        omega
      · rw [upd_other _ _ e']
        exact h.d m m' (by omega) (by omega) hne x hx
/-- All lists, ahead of the marks. -/
theorem Kp4.fq {w wr : World} {B wb : Nat} {hold : Int} {l : WL} {qv av : Value} {s : WS} {kv : Value} {N : Nat} {R : Nat → RwD} {z : Nat → List Int} (h : Kp4 w wr B wb hold l qv av s kv N R z) : Fq wr wr (fun x => ∃ m, m < N ∧ (R m).v.ownBlock = some x) N R (fun m => (R m).v) z 0 :=
  ⟨fun m _ e => absurd e (Nat.not_lt_zero m), fun m hm _ => ⟨(h.o m hm).1.down (Nat.zero_le _), (h.o m hm).2.1, rfl⟩, fun m m' hm hm' hne x hx hx' => h.d m m' hm hm' hne x (cx_own hx) (cx_own hx'), fun m hm x hx => .inl ⟨m, hm, cx_own hx⟩, Keeps.refl _ _, fun m hm hn => by
    obtain ⟨g, cap, e, _, _⟩ := owG_some (h.o m hm).1 (by intro e; have := (h.o m hm).2.1; rw [e] at this; simp at this; omega)
    injection e with e _ _
    exact ⟨g, e⟩⟩
/-- A cell of the row of lists. -/
theorem Kp4.row {w wr : World} {B wb : Nat} {hold : Int} {l : WL} {qv av : Value} {s : WS} {kv : Value} {N : Nat} {R : Nat → RwD} {z : Nat → List Int} (h : Kp4 w wr B wb hold l qv av s kv N R z) (h0 : 0 < N) : ∃ g cap, kv = .slice (some ⟨g, 0, none⟩) N cap ∧ g < wr.heap.size ∧ (∃ cur, wr.heap[g]? = some (.cells cur 31)) ∧ ∀ m, m < N → wr.cell? ⟨g, m, none⟩ = some (R m).v := by
  have ho := h.ok
  obtain ⟨g, cap, e, _, hg⟩ := owG_some ho (by intro e; have := congrArg List.length e; simp at this; omega)
  have e2 : kv = .slice (some ⟨g, 0, none⟩) N cap := by rw [e]; simp
  subst e2
  refine ⟨g, cap, rfl, hg, blk ho rfl, fun m hm => ?_⟩
  rw [ow_at flat_vO ho m (by simpa using hm)]
  simp
/-- What an append of lists leaves of the rows. -/
theorem Fq.other {w wr w3 : World} {D : Nat → Prop} {N : Nat} {R : Nat → RwD} {c : Nat → Value} {z : Nat → List Int} {k : Nat} (h : Fq w wr D N R c z k) (b : Below w.heap.size wr w3) (kt : KpT 31 wr w3) : Fq w w3 D N R c z k := by
  refine h.keeps (D' := fun x => w.heap.size ≤ x ∧ ¬ ∃ cur, wr.heap[x]? = some (.cells cur 3)) ⟨b.os, b.tape, b.output, b.size, fun x hx hn => ?_⟩ (fun x e => .inr e.1) (fun m hm x hx e => e.2 (h.ty m hm x hx))
  by_cases e : w.heap.size ≤ x
  · by_cases e2 : ∃ cur, wr.heap[x]? = some (.cells cur 3)
    · obtain ⟨cur, e3⟩ := e2
      exact kt x cur _ _ e3 (by decide)
    · exact absurd ⟨e, e2⟩ hn
  · exact b.block x (by omega)
end Go.Proofs.YtdjklcmkcccpeaaGreat

namespace Go.Proofs.YtdjklcmkcccpeaaGreat
open Go.ChangeShapes Go.WideShapes Go.ChangeAt Go.RowKit Go.MuLone Go.RwLone
set_option linter.unusedVariables false
set_option maxRecDepth 100000
set_option maxHeartbeats 6400000
/-- Every list asked for, marked, made longer, and looked at again. -/
theorem law_fresh (w : World) (B wb : Nat) (hold : Int) (l : WL) (qv av : Value) (s : WS) (h : St4 w B wb hold l qv av s) (hB : B ≤ w.heap.size) : Calls Tryz.prog 110 #[.pointer (some ⟨wb, 0, none⟩)] w fun e w' => e = .returned (.bool true) ∧ St4 w' B wb hold l qv av s ∧ Below B w w' := by
  have c7 := h.c7
  have HW : Hid (St4 w B wb hold l qv av s) := h
  have HNB : Hid (∀ i, i < 2 → (s.x i).nb ≤ 256) := fun i hi => (h.b.i i hi).nb.2
  clear h
  go_enter Tryz.func110, Tryz.ntmps110
  cases hq : (bits BinOp.and IntKind.i64 hold 8 == 0) with
  | true =>
    go_wp2
    go_ret
    exact ⟨rfl, HW.out, Below.refl _ _⟩
  | false =>
    go_wp2_with fail
    clear c7 hq
    go_loopw [3, 4] (fun kv iv wr => ∃ (t N : Nat) (R : Nat → RwD) (z : Nat → List Int), t ≤ 4 ∧ iv = .int .i64 (t : Int) ∧ N ≤ t * 256 ∧ Kp4 w wr B wb hold l qv av s kv N R z) (fun _ iv _ => 4 - (intOf iv).toNat)
    case atStart => exact ⟨0, 0, fun _ => ⟨none, 0, 0⟩, fun _ => [], by omega, rfl, by omega, HW.out, Keeps.refl _ _, OwG.nil _ _ _ _ _, fun m hm => absurd hm (Nat.not_lt_zero m), fun m m' hm => absurd hm (Nat.not_lt_zero m)⟩
    case round =>
      obtain ⟨t, N, R, z, ht, rfl, hN, hK⟩ := hrel
      have HK : Hid (Kp4 w wr B wb hold l qv av s _ N R z) := hK
      clear hK
      by_cases h5 : t < 4
      · have t1 : (t : Int) < 4 := by omega
        have HI : bits BinOp.and IntKind.i64 (t : Int) 1 = ((t % 2 : Nat) : Int) := by rw [i64_and1]; omega
        have hi : t % 2 < 2 := by omega
        have hnb := HNB.out (t % 2) hi
        obtain ⟨i, hie⟩ : ∃ i, t % 2 = i := ⟨_, rfl⟩
        rw [hie] at HI hi hnb
        have i0 : (0 : Int) ≤ (i : Int) := Int.natCast_nonneg _
        have i1 : (i : Int) < 2 := by omega
        clear hie
        go_wp2_with fail
        go_loopw [3, 5] (fun kv bv wr2 => ∃ (b N : Nat) (R : Nat → RwD) (z : Nat → List Int), b ≤ (s.x i).nb ∧ bv = .int .i64 (b : Int) ∧ N ≤ t * 256 + b ∧ Kp4 w wr2 B wb hold l qv av s kv N R z) (fun _ bv _ => (s.x i).nb - (intOf bv).toNat)
        case atStart => exact ⟨0, N, R, z, by omega, rfl, by omega, HK.out⟩
        case round =>
          clear hN HK
          obtain ⟨b, N, R, z, hb, rfl, hN, hK⟩ := hrel
          have c4 := hK.st.c4 i hi
          have c2 := (hK.st.b.j i hi).c2
          have c1 := hK.st.c1 i hi
          obtain ⟨ka, kc, hkf⟩ := hK.ok.form
          rw [List.length_map, List.length_range] at hkf
          subst hkf
          have HK : Hid (Kp4 w wr B wb hold l qv av s (.slice ka N kc) N R z) := hK
          by_cases h6 : b < (s.x i).nb
          · have b1 : (b : Int) < ((s.x i).nb : Int) := by omega
            have HL : Hid (∀ _ : Unit, _) := fun _ => ix_list wr l.L s.Q s.S (l.X i) (s.x i) b h6 (hK.st.b.ch i hi) (hK.st.b.wd i hi) hK.st.b.n
            clear hK
            go_wp2_with fail
            refine (HL.out ()).mono ?_
            rintro e w2 ⟨v, rfl, ⟨o2, ch2⟩, k2⟩
            obtain ⟨la, lc, hlf⟩ := o2.form
            subst hlf
            have hpl : (pickL (rowX s.S (s.x i) b)).length ≤ 4096 := Nat.le_trans (pickL_len _) (rowL_len _ _ _ _)
            generalize pickL (rowX s.S (s.x i) b) = xs at *
            obtain ⟨n, hnx⟩ : ∃ n, xs.length = n := ⟨_, rfl⟩
            rw [hnx] at o2 hpl ⊢
            have H2 : Hid (Arn w2 l.L s.Q s.S ∧ Keeps l.L.has wr w2 ∧ OwI w2 wr.heap.size (.slice la n lc) xs ∧ xs.length = n ∧ OwG vO 31 1 w2 w.heap.size (.slice ka N kc) ((List.range N).map (fun m => (R m).v))) := ⟨ch2.a, k2, o2, hnx, owK HK.out.ok k2 (fun g hg e => by have := (World.ownsRow.lt HK.out.ok g hg).1; have := HW.out.b.lt g (.inl (.inl e)); omega)⟩
            have hrl : ((List.range N).map (fun m => (R m).v)).length = N := by simp
            clear o2 ch2 k2 HL c4 c2 c1 hnx
            go_wp2_with (at_builtin; refine hideG ?_)
            change wpList _ _ _ _ _ _
            refine app_one (cs := vO) (wr := w2) (by rfl) _ _ 32 31 (by rfl) Tryz.underlying32 infoSlI rfl (by decide) (fun _ => rfl) w.heap.size _ ((List.range N).map (fun m => (R m).v)) (.slice la n lc) H2.out.2.2.2.2 (by rfl) w2.heap.size rfl (by rfl) (by intro u hu; simp [vO] at hu; subst hu; rfl) _ rfl (by rw [hrl]; unfold maxLen; omega) (by rw [hrl]; omega) (Nat.le_trans HK.out.kL.size H2.out.2.1.size) ?_
            intro v' w3 ho3 hb3 hk3
            have HN : Hid (Kp4 w w3 B wb hold l qv av s v' (N + 1) (upd R N ⟨la, n, lc⟩) (upd z N xs)) := HK.out.next HW.out hB H2.out.1 H2.out.2.1 H2.out.2.2.1 H2.out.2.2.2.1 (by rw [H2.out.2.2.2.1]; exact hpl) ho3 hb3 hk3
            clear ho3 hb3 hk3 H2 HK
            go_wp2
            go_roundw
            case rel => exact ⟨b + 1, N + 1, _, _, by omega, by go_num, by omega, HN.out⟩
            case measure => simp [intOf]; omega
          · have b1 : ¬ (b : Int) < ((s.x i).nb : Int) := by omega
            clear hK
            go_wp2
            go_roundw
            case rel => exact ⟨t + 1, N, R, z, by omega, by go_num, by omega, HK.out⟩
            case measure => simp [intOf]; omega
      · have e5 : t = 4 := by omega
        subst e5
        have t1 : ¬ ((4 : Nat) : Int) < 4 := by omega
        have hNs : N ≤ 1024 := by omega
        obtain ⟨ka, kc, hkf⟩ := HK.out.ok.form
        rw [List.length_map, List.length_range] at hkf
        subst hkf
        have HNN : Hid (w.heap.size ≤ wr.heap.size) := HK.out.kL.size
        generalize wr = wA at *
        have HD : Hid (∀ x, (∃ m, m < N ∧ (R m).v.ownBlock = some x) → w.heap.size ≤ x ∧ x < wA.heap.size ∧ ∃ cur, wA.heap[x]? = some (.cells cur 3)) := fun x ⟨m, hm, hx⟩ => ⟨(World.ownsRow.lt (HK.out.o m hm).1 x hx).1, (World.ownsRow.lt (HK.out.o m hm).1 x hx).2, blk (HK.out.o m hm).1 hx⟩
        have HROW : Hid (∀ W, Keeps (fun x => ∃ m, m < N ∧ (R m).v.ownBlock = some x) wA W → ∀ k, k < N → ∃ g, ka = some ⟨g, 0, none⟩ ∧ W.cell? ⟨g, k, none⟩ = some (R k).v) := fun W kW k hk => by
          obtain ⟨g, cap, e, hg, ⟨cur, hcur⟩, hr⟩ := HK.out.row (by omega)
          injection e with e _ _
          refine ⟨g, e, (kW.cell (p := ⟨g, k, none⟩) hg (fun hd => ?_)).trans (hr k hk)⟩
          obtain ⟨_, _, cur2, h2⟩ := HD.out g hd
          rw [hcur] at h2
          injection h2 with h2
          injection h2 with _ h2 _
          exact absurd h2 (by decide)
        have HFQ : Hid (Fq wA wA (fun x => ∃ m, m < N ∧ (R m).v.ownBlock = some x) N R (fun m => (R m).v) z 0) := HK.out.fq
        have HRL : Hid (∀ m, m < N → (R m).n ≤ 4096) := fun m hm => by have := (HK.out.o m hm).2; omega
        have HNBK : Hid (∀ i, i < 2 → (s.x i).nb ≤ 256) := HNB.out
        clear HNB
        go_wp2_with fail
        go_loopw [8, 9] (fun gv kv wr2 => ∃ (k : Nat) (c : Nat → Value) (z : Nat → List Int), k ≤ N ∧ kv = .int .i64 (k : Int) ∧ Fq wA wr2 (fun x => ∃ m, m < N ∧ (R m).v.ownBlock = some x) N R c z k ∧ OwG vO 31 1 wr2 wA.heap.size gv ((List.range k).map c)) (fun _ kv _ => N - (intOf kv).toNat)
        case atStart => exact ⟨0, _, z, by omega, rfl, HFQ.out, OwG.nil _ _ _ _ _⟩
        case round =>
          clear HFQ
          obtain ⟨k, c, z, hk, rfl, hQ, hG⟩ := hrel
          obtain ⟨ga, gc, hgf⟩ := hG.form
          rw [List.length_map, List.length_range] at hgf
          subst hgf
          by_cases h6 : k < N
          · have k0 : (0 : Int) ≤ (k : Int) := Int.natCast_nonneg _
            have k1 : (k : Int) < (N : Int) := by omega
            have hrn := HRL.out k h6
            have HQ : Hid (Fm wA wr (fun x => ∃ m, m < N ∧ (R m).v.ownBlock = some x) N R c z k 0 ∧ OwG vO 31 1 wr wA.heap.size (.slice ga k gc) ((List.range k).map c)) := ⟨⟨hQ, fun i' h => absurd h (Nat.not_lt_zero i')⟩, hG⟩
            clear hQ hG
            go_wp2_with fail
            go_loopw [10] (fun jv wr3 => ∃ (i : Nat) (z : Nat → List Int), i ≤ (R k).n ∧ jv = .int .i64 (i : Int) ∧ Fm wA wr3 (fun x => ∃ m, m < N ∧ (R m).v.ownBlock = some x) N R c z k i ∧ OwG vO 31 1 wr3 wA.heap.size (.slice ga k gc) ((List.range k).map c)) (fun jv _ => (R k).n - (intOf jv).toNat)
            case atStart => exact ⟨0, z, by omega, rfl, HQ.out⟩
            case round =>
              clear HQ
              obtain ⟨i, z, hi, rfl, hM, hG⟩ := hrel
              obtain ⟨kb, rfl, ckk⟩ := HROW.out wr hM.q.kp k h6
              have HM : Hid (Fm wA wr (fun x => ∃ m, m < N ∧ (R m).v.ownBlock = some x) N R c z k i ∧ OwG vO 31 1 wr wA.heap.size (.slice ga k gc) ((List.range k).map c)) := ⟨hM, hG⟩
              clear hM hG
              by_cases h7 : i < (R k).n
              · have j0 : (0 : Int) ≤ (i : Int) := Int.natCast_nonneg _
                have j1 : (i : Int) < ((R k).n : Int) := by omega
                obtain ⟨g, hra, hset, ⟨u, hu⟩, hfz, hcx⟩ := HM.out.1.set h6 h7 (-1 - (k : Int)) rfl
                have HN : Hid (Fm wA (wr.setCell ⟨g, i, none⟩ (.int .i64 (-1 - (k : Int)))) (fun x => ∃ m, m < N ∧ (R m).v.ownBlock = some x) N R c (upd z k ((z k).set i (-1 - (k : Int)))) k (i + 1) ∧ OwG vO 31 1 (wr.setCell ⟨g, i, none⟩ (.int .i64 (-1 - (k : Int)))) wA.heap.size (.slice ga k gc) ((List.range k).map c)) := by
                  refine ⟨hset, owK HM.out.2 (setB (b := g) (j := i) (v := .int .i64 (-1 - (k : Int)))) (fun x hx e => ?_)⟩
                  subst e
                  obtain ⟨cur, h1⟩ := blk HM.out.2 hx
                  obtain ⟨cur2, h2⟩ := HM.out.1.q.ty k h6 _ hcx
                  rw [h1] at h2
                  injection h2 with h2
                  injection h2 with _ h2 _
                  exact absurd h2 (by decide)
                have ckk2 : wr.cell? ⟨kb, k, none⟩ = some (.slice (some ⟨g, 0, none⟩) (R k).n (R k).c) := by rw [ckk]; show some (Value.slice (R k).a (R k).n (R k).c) = _; rw [hra]
                clear ckk hset HM hra hcx
                go_wp2
                go_roundw
                case rel => exact ⟨i + 1, _, by omega, by go_num, HN.out⟩
                case measure => simp [intOf]; omega
              · have j1 : ¬ (i : Int) < ((R k).n : Int) := by omega
                have e7 : i = (R k).n := by omega
                have ckk2 : wr.cell? ⟨kb, k, none⟩ = some (.slice (R k).a (R k).n (R k).c) := ckk
                have HL : Hid ((z k).length = (R k).n) := (HM.out.1.q.o k h6 (Nat.le_refl _)).2.1
                clear ckk
                go_wp2_with (at_builtin; refine hideG ?_)
                change wpList _ _ _ _ _ _
                refine app_stay (cs := inZ) (wr := wr) (by rfl) _ _ 31 3 (by rfl) Tryz.underlying31 infoZ rfl (by decide) (fun _ => rfl) _ (z k) (-1 - (k : Int)) (HM.out.1.q.o k h6 (Nat.le_refl _)).1 (by rfl) wr.heap.size rfl (by rfl) (inZ_one _) _ rfl (by rw [HL.out]; unfold maxLen; omega) (by rw [HL.out]; omega) ?_
                intro b cap w5 ho5 kk5 hb5
                obtain ⟨f5, kx5⟩ := HM.out.1.app h6 e7 (-1 - (k : Int)) rfl ho5 kk5
                have H5 : Hid (Fq wA w5 (fun x => ∃ m, m < N ∧ (R m).v.ownBlock = some x) N R (upd c k (.slice (some ⟨b, 0, none⟩) ((z k).length + 1) cap)) (upd z k (z k ++ [-1 - (k : Int)])) (k + 1) ∧ OwG vO 31 1 w5 wA.heap.size (.slice ga k gc) ((List.range k).map c)) := by
                  refine ⟨f5, owK HM.out.2 kx5 (fun x hx e => ?_)⟩
                  obtain ⟨cur, h1⟩ := blk HM.out.2 hx
                  obtain ⟨cur2, h2⟩ := HM.out.1.q.ty k h6 _ e
                  rw [h1] at h2
                  injection h2 with h2
                  injection h2 with _ h2 _
                  exact absurd h2 (by decide)
                have hrl : ((List.range k).map c).length = k := by simp
                clear f5 kx5 ho5 kk5 hb5 ckk2 HM
                go_wp2_with (at_builtin; refine hideG ?_)
                change wpList _ _ _ _ _ _
                refine app_one (cs := vO) (wr := w5) (by rfl) _ _ 32 31 (by rfl) Tryz.underlying32 infoSlI rfl (by decide) (fun _ => rfl) wA.heap.size _ ((List.range k).map c) (.slice (some ⟨b, 0, none⟩) ((z k).length + 1) cap) H5.out.2 (by rfl) w5.heap.size rfl (by rfl) (by intro u hu; simp [vO] at hu; subst hu; rfl) _ rfl (by rw [hrl]; unfold maxLen; omega) (by rw [hrl]; omega) H5.out.1.kp.size ?_
                intro v' w6 ho6 hb6 hk6
                have H6 : Hid (Fq wA w6 (fun x => ∃ m, m < N ∧ (R m).v.ownBlock = some x) N R (upd c k (.slice (some ⟨b, 0, none⟩) ((z k).length + 1) cap)) (upd z k (z k ++ [-1 - (k : Int)])) (k + 1) ∧ OwG vO 31 1 w6 wA.heap.size v' ((List.range (k + 1)).map (upd c k (.slice (some ⟨b, 0, none⟩) ((z k).length + 1) cap)))) := by
                  refine ⟨H5.out.1.other hb6 hk6, ?_⟩
                  have e : (List.range (k + 1)).map (upd c k (.slice (some ⟨b, 0, none⟩) ((z k).length + 1) cap)) = (List.range k).map c ++ [.slice (some ⟨b, 0, none⟩) ((z k).length + 1) cap] := by
                    rw [List.range_succ, List.map_append]
                    congr 1
                    · refine List.map_congr_left (fun m hm => ?_)
                      have := List.mem_range.1 hm
                      rw [upd_other _ _ (by omega)]
                    · show [upd c k _ k] = _
                      rw [upd_same]
                  rw [e]
                  exact ho6
                clear ho6 hb6 hk6 H5 HL
                go_wp2
                go_roundw
                case rel => exact ⟨k + 1, _, _, by omega, by go_num, H6.out⟩
                case measure => simp [intOf]; omega
          · have k1 : ¬ (k : Int) < (N : Int) := by omega
            have e6 : k = N := by omega
            subst e6
            have HQ : Hid (Fq wA wr (fun x => ∃ m, m < k ∧ (R m).v.ownBlock = some x) k R c z k ∧ OwG vO 31 1 wr wA.heap.size (.slice ga k gc) ((List.range k).map c)) := ⟨hQ, hG⟩
            clear hQ hG
            generalize wr = wB at *
            have HS : Hid (St4 wB B wb hold l qv av s ∧ Below B w wB) := by
              have kp := HQ.out.1.kp
              refine ⟨HK.out.st.keeps kp (fun g hg hd => ?_), (keepsB HW.out HK.out.kL hB).trans (kp.below (Nat.le_trans hB HNN.out) (fun x hx hd => ?_))⟩
              · have := (HD.out g hd).1
                have := (HW.out.low g hg).2
                omega
              · have := (HD.out x hd).1
                omega
            have HC : Hid (∀ m, m < k → ∃ kb gb g cap, ka = some ⟨kb, 0, none⟩ ∧ ga = some ⟨gb, 0, none⟩ ∧ wB.cell? ⟨kb, m, none⟩ = some (R m).v ∧ wB.cell? ⟨gb, m, none⟩ = some (.slice (some ⟨g, 0, none⟩) ((R m).n + 1) cap) ∧ (∀ j, j < (R m).n + 1 → wB.cell? ⟨g, j, none⟩ = some (.int .i64 (-1 - (m : Int)))) ∧ ∀ j, j < (R m).n → ∃ g', (R m).a = some ⟨g', 0, none⟩ ∧ wB.cell? ⟨g', j, none⟩ = some (.int .i64 (-1 - (m : Int)))) := fun m hm => by
              obtain ⟨kb, e1, h1⟩ := HROW.out wB HQ.out.1.kp m hm
              obtain ⟨gb, cap, e2, _, _⟩ := owG_some HQ.out.2 (by intro e; have := congrArg List.length e; simp at this; omega)
              injection e2 with e2 _ _
              obtain ⟨g, cap2, e3, h3⟩ := HQ.out.1.grown m hm
              have hg := HQ.out.2
              rw [e2] at hg
              have h4 := ow_at flat_vO hg m (by simpa using hm)
              refine ⟨kb, gb, g, cap2, e1, e2, h1, ?_, h3, fun j hj => HQ.out.1.kept m hm j hj⟩
              rw [h4, ← e3]
              simp
            clear HQ HROW HD HNN hNs t1
            go_wp2_with fail
            go_loopw [11] (fun kv wr4 => ∃ m : Nat, m ≤ k ∧ kv = .int .i64 (m : Int) ∧ wr4 = wB) (fun kv _ => k - (intOf kv).toNat)
            case atStart => exact ⟨0, by omega, rfl, rfl⟩
            case round =>
              obtain ⟨m, hm, rfl, hwr⟩ := hrel
              rw [hwr]
              clear hwr
              by_cases h7 : m < k
              · have m0 : (0 : Int) ≤ (m : Int) := Int.natCast_nonneg _
                have m1 : (m : Int) < (k : Int) := by omega
                obtain ⟨kb, gb, g, cap, rfl, rfl, d1, d2, d3, d4⟩ := HC.out m h7
                have hrn := HRL.out m h7
                replace d1 : wB.cell? ⟨kb, m, none⟩ = some (.slice (R m).a (R m).n (R m).c) := d1
                have HD3 : Hid (∀ j, j < (R m).n + 1 → wB.cell? ⟨g, j, none⟩ = some (.int .i64 (-1 - (m : Int)))) := d3
                have HD4 : Hid (∀ j, j < (R m).n → ∃ g', (R m).a = some ⟨g', 0, none⟩ ∧ wB.cell? ⟨g', j, none⟩ = some (.int .i64 (-1 - (m : Int)))) := d4
                clear d3 d4
                obtain ⟨n, hn⟩ : ∃ n, (R m).n = n := ⟨_, rfl⟩
                obtain ⟨ra, hra⟩ : ∃ ra, (R m).a = ra := ⟨_, rfl⟩
                rw [hn, hra] at d1
                rw [hn] at d2 HD3 HD4 hrn
                rw [hra] at HD4
                clear hn hra
                go_wp2_with fail
                go_loopw [12] (fun jv wr5 => ∃ j : Nat, j ≤ n + 1 ∧ jv = .int .i64 (j : Int) ∧ wr5 = wB) (fun jv _ => n + 1 - (intOf jv).toNat)
                case atStart => exact ⟨0, by omega, rfl, rfl⟩
                case round =>
                  obtain ⟨j, hj, rfl, hwr⟩ := hrel
                  rw [hwr]
                  clear hwr
                  by_cases h8 : j < n + 1
                  · have j0 : (0 : Int) ≤ (j : Int) := Int.natCast_nonneg _
                    have j1 : (j : Int) < (n : Int) + 1 := by omega
                    have d3 := HD3.out j h8
                    by_cases h9 : j < n
                    · have j2 : (j : Int) < (n : Int) := by omega
                      obtain ⟨g', rfl, d4⟩ := HD4.out j h9
                      go_wp2
                      go_roundw
                      case rel => exact ⟨j + 1, by omega, by go_num, by first | rfl | trivial⟩
                      case measure => simp [intOf]; omega
                    · have j2 : ¬ (j : Int) < (n : Int) := by omega
                      go_wp2
                      go_roundw
                      case rel => exact ⟨j + 1, by omega, by go_num, by first | rfl | trivial⟩
                      case measure => simp [intOf]; omega
                  · have j1 : ¬ (j : Int) < (n : Int) + 1 := by omega
                    go_wp2
                    go_roundw
                    case rel => exact ⟨m + 1, by omega, by go_num, by first | rfl | trivial⟩
                    case measure => simp [intOf]; omega
              · have m1 : ¬ (m : Int) < (k : Int) := by omega
                clear HC HRL
                go_wp2_with fail
                go_loopw [13] (fun iv wr6 => ∃ t : Nat, t ≤ 2 ∧ iv = .int .i64 (t : Int) ∧ St4 wr6 B wb hold l qv av s ∧ Below B w wr6) (fun iv _ => 2 - (intOf iv).toNat)
                case atStart => exact ⟨0, by omega, rfl, HS.out⟩
                case round =>
                  clear HS
                  obtain ⟨t, ht, rfl, hS⟩ := hrel
                  have HS : Hid (St4 wr B wb hold l qv av s ∧ Below B w wr) := hS
                  clear hS
                  by_cases h8 : t < 2
                  · have i0 : (0 : Int) ≤ (t : Int) := Int.natCast_nonneg _
                    have i1 : (t : Int) < 2 := by omega
                    have hnb := HNBK.out t h8
                    go_wp2_with fail
                    go_loopw [14] (fun bv wr7 => ∃ b : Nat, b ≤ (s.x t).nb ∧ bv = .int .i64 (b : Int) ∧ St4 wr7 B wb hold l qv av s ∧ Below B w wr7) (fun bv _ => (s.x t).nb - (intOf bv).toNat)
                    case atStart => exact ⟨0, by omega, rfl, HS.out⟩
                    case round =>
                      clear HS
                      obtain ⟨b, hb, rfl, hS⟩ := hrel
                      have c4 := hS.1.c4 t h8
                      have c2 := (hS.1.b.j t h8).c2
                      have HS : Hid (St4 wr B wb hold l qv av s ∧ Below B w wr) := hS
                      clear hS
                      by_cases h9 : b < (s.x t).nb
                      · have b1 : (b : Int) < ((s.x t).nb : Int) := by omega
                        have HBz : Hid (B ≤ wr.heap.size) := Nat.le_trans hB HS.out.2.size
                        have HL : Hid (∀ _ : Unit, _) := fun _ => law_look wr B wb hold l qv av s t (b : Int) HS.out.1 h8 HBz.out
                        go_wp2_with fail
                        refine (HL.out ()).mono ?_
                        rintro e w8 ⟨rfl, s8, k8⟩
                        have HN : Hid (St4 w8 B wb hold l qv av s ∧ Below B w w8) := ⟨s8, HS.out.2.trans (keepsB HS.out.1 k8 HBz.out)⟩
                        clear s8 k8 HL HS c4 c2
                        go_wp2
                        go_roundw
                        case rel => exact ⟨b + 1, by omega, by go_num, HN.out⟩
                        case measure => simp [intOf]; omega
                      · have b1 : ¬ (b : Int) < ((s.x t).nb : Int) := by omega
                        go_wp2
                        go_roundw
                        case rel => exact ⟨t + 1, by omega, by go_num, HS.out⟩
                        case measure => simp [intOf]; omega
                  · have i1 : ¬ (t : Int) < 2 := by omega
                    go_wp2
                    go_ret
                    exact ⟨rfl, HS.out⟩
end Go.Proofs.YtdjklcmkcccpeaaGreat

namespace Go.Proofs.YtdjklcmkcccpeaaGreat
open Go.ChangeShapes Go.WideShapes Go.ChangeAt Go.RowKit Go.MuLone Go.RwLone
set_option linter.unusedVariables false
set_option maxRecDepth 100000
set_option maxHeartbeats 6400000
theorem law_last (w : World) (B wb : Nat) (hold : Int) (l : WL) (qv av : Value) (s : WS) (h : St4 w B wb hold l qv av s) (hB : B ≤ w.heap.size) (hml : s.ms.length ≤ 1048577) : Calls Tryz.prog 60 #[.pointer (some ⟨wb, 0, none⟩)] w fun e w' => e = .returned (.bool true) ∧ Below B w w' := by
  have HW : Hid (St4 w B wb hold l qv av s) := h
  have HNBK : Hid (∀ i, i < 2 → (s.x i).nb ≤ 256) := fun i hi => (h.b.i i hi).nb.2
  clear h
  go_enter Tryz.func60, Tryz.ntmps60
  go_wp2_with fail
  go_loopw [3] (fun kv wr => ∃ k : Nat, k ≤ s.ms.length ∧ kv = .int .i64 (k : Int) ∧ St4 wr B wb hold l qv av s ∧ Below B w wr) (fun kv _ => s.ms.length - (intOf kv).toNat)
  case atStart => exact ⟨0, by omega, rfl, HW.out, Below.refl _ _⟩
  case round =>
    obtain ⟨k, hk, rfl, hS⟩ := hrel
    clear HW
    obtain ⟨sp, cp, hsp⟩ := hS.1.o.form
    subst hsp
    have c6 := hS.1.c6
    have HS : Hid (St4 wr B wb hold l qv (.slice sp s.ms.length cp) s ∧ Below B w wr) := hS
    clear hS
    by_cases h5 : k < s.ms.length
    · have k0 : (0 : Int) ≤ (k : Int) := Int.natCast_nonneg _
      have k1 : (k : Int) < (s.ms.length : Int) := by omega
      have hne : s.ms ≠ [] := by intro e; rw [e] at h5; simp at h5
      obtain ⟨g, cp2, hsp, _, hgl⟩ := owG_some HS.out.1.o hne
      injection hsp with hsp e2 e3
      subst hsp
      clear e2 e3
      obtain ⟨m, hm⟩ : ∃ m, s.ms[k]? = some m := ⟨_, List.getElem?_eq_getElem h5⟩
      have hp : ∀ j, j < 7 → wr.cell? ⟨g, k * 7 + j, none⟩ = (pmC m)[j]? := fun j hj => HS.out.1.pair k m hm j hj
      have HM : Hid (s.ms[k]? = some m) := hm
      have hkd : m.kd = 1 ∨ m.kd = 2 ∨ m.kd = 4 := by
        rcases (HS.out.1.b.m m (List.mem_of_getElem? hm)).1 with e | e | e
        · exact .inl e.1
        · exact .inr (.inl e.1)
        · exact .inr (.inr e.1)
      clear hm hne
      rcases hkd with hkd | hkd | hkd
      · have ep : pmC m = [.int .i64 1, .pointer (some ⟨m.pb, 0, none⟩), .pointer none, .pointer none, .pointer (some ⟨m.rb, 0, none⟩), .pointer none, .pointer none] := by unfold pmC; rw [hkd]; rfl
        have p0 : wr.cell? ⟨g, k * 7, none⟩ = some (.int .i64 1) := (hp 0 (by decide)).trans (by rw [ep]; rfl)
        have p1 : wr.cell? ⟨g, k * 7 + 1, none⟩ = some (.pointer (some ⟨m.pb, 0, none⟩)) := (hp 1 (by decide)).trans (by rw [ep]; rfl)
        have p2 : wr.cell? ⟨g, k * 7 + 2, none⟩ = some (.pointer none) := (hp 2 (by decide)).trans (by rw [ep]; rfl)
        have p3 : wr.cell? ⟨g, k * 7 + 3, none⟩ = some (.pointer none) := (hp 3 (by decide)).trans (by rw [ep]; rfl)
        have p4 : wr.cell? ⟨g, k * 7 + 4, none⟩ = some (.pointer (some ⟨m.rb, 0, none⟩)) := (hp 4 (by decide)).trans (by rw [ep]; rfl)
        have p5 : wr.cell? ⟨g, k * 7 + 5, none⟩ = some (.pointer none) := (hp 5 (by decide)).trans (by rw [ep]; rfl)
        have p6 : wr.cell? ⟨g, k * 7 + 6, none⟩ = some (.pointer none) := (hp 6 (by decide)).trans (by rw [ep]; rfl)
        have HA : Hid (∀ _ : Unit, _) := fun _ => law_ask1 wr B wb hold l qv (.slice (some ⟨g, 0, none⟩) s.ms.length cp) s k m HS.out.1 HM.out hkd
        clear hp ep hkd
        go_wp2_with fail
        refine (HA.out ()).mono ?_
        rintro e w2 ⟨rfl, b2⟩
        have HN : Hid (St4 w2 B wb hold l qv (.slice (some ⟨g, 0, none⟩) s.ms.length cp) s ∧ Below B w w2) := ⟨HS.out.1.later b2, HS.out.2.trans (b2.mono (Nat.le_trans hB HS.out.2.size))⟩
        clear b2 HA HS p0 p1 p2 p3 p4 p5 p6 c6
        go_wp2
        go_roundw
        case rel => exact ⟨k + 1, by omega, by go_num, HN.out⟩
        case measure => simp [intOf]; omega
      · have ep : pmC m = [.int .i64 2, .pointer none, .pointer (some ⟨m.pb, 0, none⟩), .pointer none, .pointer none, .pointer (some ⟨m.rb, 0, none⟩), .pointer none] := by unfold pmC; rw [hkd]; rfl
        have p0 : wr.cell? ⟨g, k * 7, none⟩ = some (.int .i64 2) := (hp 0 (by decide)).trans (by rw [ep]; rfl)
        have p1 : wr.cell? ⟨g, k * 7 + 1, none⟩ = some (.pointer none) := (hp 1 (by decide)).trans (by rw [ep]; rfl)
        have p2 : wr.cell? ⟨g, k * 7 + 2, none⟩ = some (.pointer (some ⟨m.pb, 0, none⟩)) := (hp 2 (by decide)).trans (by rw [ep]; rfl)
        have p3 : wr.cell? ⟨g, k * 7 + 3, none⟩ = some (.pointer none) := (hp 3 (by decide)).trans (by rw [ep]; rfl)
        have p4 : wr.cell? ⟨g, k * 7 + 4, none⟩ = some (.pointer none) := (hp 4 (by decide)).trans (by rw [ep]; rfl)
        have p5 : wr.cell? ⟨g, k * 7 + 5, none⟩ = some (.pointer (some ⟨m.rb, 0, none⟩)) := (hp 5 (by decide)).trans (by rw [ep]; rfl)
        have p6 : wr.cell? ⟨g, k * 7 + 6, none⟩ = some (.pointer none) := (hp 6 (by decide)).trans (by rw [ep]; rfl)
        have HA : Hid (∀ _ : Unit, _) := fun _ => law_ask2 wr B wb hold l qv (.slice (some ⟨g, 0, none⟩) s.ms.length cp) s k m HS.out.1 HM.out hkd
        clear hp ep hkd
        go_wp2_with fail
        refine (HA.out ()).mono ?_
        rintro e w2 ⟨rfl, b2⟩
        have HN : Hid (St4 w2 B wb hold l qv (.slice (some ⟨g, 0, none⟩) s.ms.length cp) s ∧ Below B w w2) := ⟨HS.out.1.later b2, HS.out.2.trans (b2.mono (Nat.le_trans hB HS.out.2.size))⟩
        clear b2 HA HS p0 p1 p2 p3 p4 p5 p6 c6
        go_wp2
        go_roundw
        case rel => exact ⟨k + 1, by omega, by go_num, HN.out⟩
        case measure => simp [intOf]; omega
      · have ep : pmC m = [.int .i64 4, .pointer none, .pointer none, .pointer (some ⟨m.pb, 0, none⟩), .pointer none, .pointer none, .pointer (some ⟨m.rb, 0, none⟩)] := by unfold pmC; rw [hkd]; rfl
        have p0 : wr.cell? ⟨g, k * 7, none⟩ = some (.int .i64 4) := (hp 0 (by decide)).trans (by rw [ep]; rfl)
        have p1 : wr.cell? ⟨g, k * 7 + 1, none⟩ = some (.pointer none) := (hp 1 (by decide)).trans (by rw [ep]; rfl)
        have p2 : wr.cell? ⟨g, k * 7 + 2, none⟩ = some (.pointer none) := (hp 2 (by decide)).trans (by rw [ep]; rfl)
        have p3 : wr.cell? ⟨g, k * 7 + 3, none⟩ = some (.pointer (some ⟨m.pb, 0, none⟩)) := (hp 3 (by decide)).trans (by rw [ep]; rfl)
        have p4 : wr.cell? ⟨g, k * 7 + 4, none⟩ = some (.pointer none) := (hp 4 (by decide)).trans (by rw [ep]; rfl)
        have p5 : wr.cell? ⟨g, k * 7 + 5, none⟩ = some (.pointer none) := (hp 5 (by decide)).trans (by rw [ep]; rfl)
        have p6 : wr.cell? ⟨g, k * 7 + 6, none⟩ = some (.pointer (some ⟨m.rb, 0, none⟩)) := (hp 6 (by decide)).trans (by rw [ep]; rfl)
        have HA : Hid (∀ _ : Unit, _) := fun _ => law_ask4 wr B wb hold l qv (.slice (some ⟨g, 0, none⟩) s.ms.length cp) s k m HS.out.1 HM.out hkd
        clear hp ep hkd
        go_wp2_with fail
        refine (HA.out ()).mono ?_
        rintro e w2 ⟨rfl, b2⟩
        have HN : Hid (St4 w2 B wb hold l qv (.slice (some ⟨g, 0, none⟩) s.ms.length cp) s ∧ Below B w w2) := ⟨HS.out.1.later b2, HS.out.2.trans (b2.mono (Nat.le_trans hB HS.out.2.size))⟩
        clear b2 HA HS p0 p1 p2 p3 p4 p5 p6 c6
        go_wp2
        go_roundw
        case rel => exact ⟨k + 1, by omega, by go_num, HN.out⟩
        case measure => simp [intOf]; omega
    · have k1 : ¬ (k : Int) < (s.ms.length : Int) := by omega
      go_wp2_with fail
      clear c6
      go_loopw [4] (fun iv wr6 => ∃ t : Nat, t ≤ 2 ∧ iv = .int .i64 (t : Int) ∧ St4 wr6 B wb hold l qv (.slice sp s.ms.length cp) s ∧ Below B w wr6) (fun iv _ => 2 - (intOf iv).toNat)
      case atStart => exact ⟨0, by omega, rfl, HS.out⟩
      case round =>
        clear HS
        obtain ⟨t, ht, rfl, hS⟩ := hrel
        have HS : Hid (St4 wr B wb hold l qv (.slice sp s.ms.length cp) s ∧ Below B w wr) := hS
        clear hS
        by_cases h8 : t < 2
        · have i0 : (0 : Int) ≤ (t : Int) := Int.natCast_nonneg _
          have i1 : (t : Int) < 2 := by omega
          have hnb := HNBK.out t h8
          go_wp2_with fail
          go_loopw [5] (fun bv wr7 => ∃ b : Nat, b ≤ (s.x t).nb ∧ bv = .int .i64 (b : Int) ∧ St4 wr7 B wb hold l qv (.slice sp s.ms.length cp) s ∧ Below B w wr7) (fun bv _ => (s.x t).nb - (intOf bv).toNat)
          case atStart => exact ⟨0, by omega, rfl, HS.out⟩
          case round =>
            clear HS
            obtain ⟨b, hb, rfl, hS⟩ := hrel
            have c4 := hS.1.c4 t h8
            have c2 := (hS.1.b.j t h8).c2
            have HS : Hid (St4 wr B wb hold l qv (.slice sp s.ms.length cp) s ∧ Below B w wr) := hS
            clear hS
            by_cases h9 : b < (s.x t).nb
            · have b1 : (b : Int) < ((s.x t).nb : Int) := by omega
              have HBz : Hid (B ≤ wr.heap.size) := Nat.le_trans hB HS.out.2.size
              have HL : Hid (∀ _ : Unit, _) := fun _ => law_look wr B wb hold l qv (.slice sp s.ms.length cp) s t (b : Int) HS.out.1 h8 HBz.out
              go_wp2_with fail
              refine (HL.out ()).mono ?_
              rintro e w8 ⟨rfl, s8, k8⟩
              have HN : Hid (St4 w8 B wb hold l qv (.slice sp s.ms.length cp) s ∧ Below B w w8) := ⟨s8, HS.out.2.trans (keepsB HS.out.1 k8 HBz.out)⟩
              clear s8 k8 HL HS c4 c2
              go_wp2
              go_roundw
              case rel => exact ⟨b + 1, by omega, by go_num, HN.out⟩
              case measure => simp [intOf]; omega
            · have b1 : ¬ (b : Int) < ((s.x t).nb : Int) := by omega
              go_wp2
              go_roundw
              case rel => exact ⟨t + 1, by omega, by go_num, HS.out⟩
              case measure => simp [intOf]; omega
        · have i1 : ¬ (t : Int) < 2 := by omega
          have HBz : Hid (B ≤ wr.heap.size) := Nat.le_trans hB HS.out.2.size
          have HA : Hid (∀ _ : Unit, _) := fun _ => law_counts wr B wb hold l qv (.slice sp s.ms.length cp) s HS.out.1 HBz.out
          go_wp2_with fail
          refine (HA.out ()).mono ?_
          rintro e w2 ⟨rfl, s2, k2⟩
          have H2 : Hid (St4 w2 B wb hold l qv (.slice sp s.ms.length cp) s ∧ Below B w w2) := ⟨s2, HS.out.2.trans (keepsB HS.out.1 k2 HBz.out)⟩
          have HC : Hid (∀ _ : Unit, _) := fun _ => law_fresh w2 B wb hold l qv (.slice sp s.ms.length cp) s H2.out.1 (Nat.le_trans hB H2.out.2.size)
          clear s2 k2 HA HS HBz
          go_wp2_with fail
          refine (HC.out ()).mono ?_
          rintro e w3 ⟨rfl, s3, b3⟩
          have HF : Hid (Below B w w3) := H2.out.2.trans b3
          clear s3 b3 HC H2
          go_wp2
          go_ret
          exact ⟨rfl, HF.out⟩
end Go.Proofs.YtdjklcmkcccpeaaGreat

namespace Go.Proofs.YtdjklcmkcccpeaaGreat
open Go.ChangeShapes Go.WideShapes Go.ChangeAt Go.RowKit
set_option linter.unusedVariables false

set_option maxRecDepth 100000 in
set_option maxHeartbeats 800000 in
theorem ref_shape (b n wd c : Nat) (sp : Option Addr) (w : World) (hz : n ≤ 1099511627776) (h1 : w.cell? ⟨b, 0, none⟩ = some (.int .i64 (wd : Int))) (h2 : w.cell? ⟨b, 1, none⟩ = some (.slice sp (n + 1) c)) : Calls Tryz.prog 145 #[.pointer (some ⟨b, 0, none⟩)] w fun e w' => e = .returned (.tuple #[.int .i64 (n : Int), .int .i64 (wd : Int)]) ∧ w' = w.drew := by
  have hw1 : IntKind.i64.wrap ((n : Int) + 1 - 1) = (n : Int) := by rw [IntKind.wrap_i64]; omega
  have hw2 : IntKind.i64.wrap (n : Int) = (n : Int) := by rw [IntKind.wrap_i64]; omega
  have hw3 : (n : Int) + 1 - 1 = (n : Int) := by omega
  go_enter Tryz.func145, Tryz.ntmps145
  go_wp2
  have s1 : w.drew.cell? ⟨b, 0, none⟩ = some (.int .i64 (wd : Int)) := h1
  have s2 : w.drew.cell? ⟨b, 1, none⟩ = some (.slice sp (n + 1) c) := h2
  go_region_held3 (fun w'' => w''.cell? ⟨b, 0, none⟩ = some (.int .i64 (wd : Int)) ∧ w''.cell? ⟨b, 1, none⟩ = some (.slice sp (n + 1) c)) (first | assumption | exact ⟨s1, s2⟩) (fail)
  go_wp2
  go_ret2
  exact ⟨rfl, rfl⟩
set_option maxRecDepth 100000 in
set_option maxHeartbeats 800000 in
theorem ref_shape_nil (w : World) : Calls Tryz.prog 145 #[.pointer none] w fun e w' => e = .returned (.tuple #[.int .i64 0, .int .i64 0]) ∧ w' = w := by
  go_enter Tryz.func145, Tryz.ntmps145
  go_wp2
  go_ret2
  exact ⟨rfl, rfl⟩
set_option maxRecDepth 100000 in
set_option maxHeartbeats 800000 in
theorem shape_nil (w : World) : Calls Tryz.prog 62 #[.pointer none] w fun e w' => e = .returned (.tuple #[.int .i64 0, .int .i64 0]) ∧ w' = w := by
  go_enter Tryz.func62, Tryz.ntmps62
  go_wp2_with fail
  refine (missing_nil w).mono ?_
  rintro e w' ⟨rfl, rfl⟩
  go_wp2
  go_ret2
  exact ⟨rfl, rfl⟩
set_option maxRecDepth 100000 in
set_option maxHeartbeats 800000 in
theorem ref_new_refused (n wd : Int) (w : World) (h : ¬ (1 ≤ n ∧ n ≤ 4096 ∧ 1 ≤ wd ∧ wd ≤ 16)) : Calls Tryz.prog 98 #[.int .i64 n, .int .i64 wd] w fun e w' => e = .returned (.tuple #[.pointer none, .int .i64 20]) ∧ w' = w := by
  by_cases h1 : 1 ≤ n
  · by_cases h2 : n ≤ 4096
    · by_cases h3 : 1 ≤ wd
      · have h4 : ¬ wd ≤ 16 := fun h4 => h ⟨h1, h2, h3, h4⟩
        clear h
        go_enter Tryz.func98, Tryz.ntmps98
        go_wp2
        go_ret2
        exact ⟨rfl, rfl⟩
      · clear h
        go_enter Tryz.func98, Tryz.ntmps98
        go_wp2
        go_ret2
        exact ⟨rfl, rfl⟩
    · clear h
      go_enter Tryz.func98, Tryz.ntmps98
      go_wp2
      go_ret2
      exact ⟨rfl, rfl⟩
  · clear h
    go_enter Tryz.func98, Tryz.ntmps98
    go_wp2
    go_ret2
    exact ⟨rfl, rfl⟩
end Go.Proofs.YtdjklcmkcccpeaaGreat

namespace Go.Proofs.YtdjklcmkcccpeaaGreat
open Go.ChangeShapes Go.WideShapes Go.ChangeAt Go.RowKit Go.MuLone Go.RwLone
set_option linter.unusedVariables false
set_option maxRecDepth 100000
set_option maxHeartbeats 6400000
theorem law_whole_no (w : World) (wb : Nat) (a x y : Option Addr) (c3 : w.cell? ⟨wb, 3, none⟩ = some (.pointer a)) (c4 : w.cell? ⟨wb, 4, none⟩ = some (.pointer x)) (c5 : w.cell? ⟨wb, 5, none⟩ = some (.pointer y)) (h : a = none ∨ x = none ∨ y = none) : Calls Tryz.prog 58 #[.pointer (some ⟨wb, 0, none⟩)] w fun e w' => e = .returned (.bool false) ∧ w' = w := by
  cases a with
  | none =>
    clear h
    go_enter Tryz.func58, Tryz.ntmps58
    go_wp2
    go_ret
    exact ⟨rfl, rfl⟩
  | some a =>
    cases x with
    | none =>
      clear h
      go_enter Tryz.func58, Tryz.ntmps58
      go_wp2
      go_ret
      exact ⟨rfl, rfl⟩
    | some x =>
      cases y with
      | none =>
        clear h
        go_enter Tryz.func58, Tryz.ntmps58
        go_wp2
        go_ret
        exact ⟨rfl, rfl⟩
      | some y => rcases h with h | h | h <;> cases h
theorem law_whole (w : World) (wb : Nat) (a x y : Addr) (c3 : w.cell? ⟨wb, 3, none⟩ = some (.pointer (some a))) (c4 : w.cell? ⟨wb, 4, none⟩ = some (.pointer (some x))) (c5 : w.cell? ⟨wb, 5, none⟩ = some (.pointer (some y))) : Calls Tryz.prog 58 #[.pointer (some ⟨wb, 0, none⟩)] w fun e w' => e = .returned (.bool true) ∧ w' = w := by
  go_enter Tryz.func58, Tryz.ntmps58
  go_wp2
  go_ret
  exact ⟨rfl, rfl⟩
/-- What the law's opening leaves: all of it, or a gap. -/
def OpnQ (w : World) (B wb : Nat) (hold : Int) (w' : World) : Prop :=
  ((∃ a x y, w'.cell? ⟨wb, 3, none⟩ = some (.pointer a) ∧ w'.cell? ⟨wb, 4, none⟩ = some (.pointer x) ∧ w'.cell? ⟨wb, 5, none⟩ = some (.pointer y) ∧ (a = none ∨ x = none ∨ y = none)) ∨ (∃ l qv av s, St4 w' B wb hold l qv av s ∧ s.ms.length = 0)) ∧ Below B w w'
end Go.Proofs.YtdjklcmkcccpeaaGreat

namespace Go.Proofs.YtdjklcmkcccpeaaGreat
open Go.ChangeShapes Go.WideShapes Go.ChangeAt Go.RowKit Go.MuLone Go.RwLone
set_option linter.unusedVariables false
set_option maxRecDepth 100000
set_option maxHeartbeats 6400000
/-- The law's script and world in their boxes. -/
structure OpB (w wr : World) (sc C : Array Value) : Prop where
  hs : wr.heap[w.heap.size]? = some (.cells sc 78)
  hw : wr.heap[w.heap.size + 1]? = some (.cells C 176)
  b : Below w.heap.size w wr
theorem OpB.later {w wr w2 : World} {sc C : Array Value} (h : OpB w wr sc C) (k : Below wr.heap.size wr w2) : OpB w w2 sc C := ⟨(k.block _ (lt_heap h.hs)).trans h.hs, (k.block _ (lt_heap h.hw)).trans h.hw, h.b.trans (k.mono h.b.size)⟩
theorem OpB.drew {w wr : World} {sc C : Array Value} (h : OpB w wr sc C) : OpB w wr.drew sc C := h.later (Below.refl _ _).drew
theorem OpB.set {w wr : World} {sc C : Array Value} (h : OpB w wr sc C) (j : Nat) (v : Value) : OpB w (wr.setCell ⟨w.heap.size + 1, j, none⟩ v) sc (C.setIfInBounds j v) := ⟨by rw [Below.heap_setCell _ _ _ _ (by show w.heap.size ≠ w.heap.size + 1; omega)]; exact h.hs, heapSetC h.hw j v, h.b.setCell (p := ⟨w.heap.size + 1, j, none⟩) (by show w.heap.size ≤ w.heap.size + 1; omega) v⟩
theorem OpB.start (w : World) (sc C : Array Value) : OpB w ((w.alloc (.cells sc 78)).alloc (.cells C 176)) sc C := by
  have g1 := heap_alloc_new w (.cells sc 78)
  have g2 := heap_alloc_new (w.alloc (.cells sc 78)) (.cells C 176)
  have e1 : (w.alloc (.cells sc 78)).heap.size = w.heap.size + 1 := by simp
  rw [e1] at g2
  refine ⟨?_, g2, ((Below.refl _ _).alloc (Nat.le_refl _) _).alloc (by rw [e1]; omega) _⟩
  rw [Below.heap_alloc _ _ _ (by rw [e1]; omega)]
  exact g1
/-- Both arenas. -/
structure OpA (w wr : World) (L : Lay) (R : RL) (cap : Nat) (qv : Value) (n : Nat) : Prop where
  ar : Arn wr L (List.range n) (.fresh n 2)
  rr : RAr wr R cap qv (List.range n) (.fresh n 2)
  lo : ∀ g, L.has g ∨ raF R qv (.fresh n 2) g → w.heap.size + 2 ≤ g
  ld : ∀ g, L.has g → ¬ raF R qv (.fresh n 2) g
theorem OpA.keeps {w wr w2 : World} {L : Lay} {R : RL} {cap : Nat} {qv : Value} {n : Nat} {D : Nat → Prop} (h : OpA w wr L R cap qv n) (k : Keeps D wr w2) (hD : ∀ g, D g → g < w.heap.size + 2) : OpA w w2 L R cap qv n :=
  ⟨h.ar.keeps k (fun g hg e => by have := hD g e; have := h.lo g (.inl hg); omega), h.rr.keeps k (fun g hg e => by have := hD g e; have := h.lo g (.inr hg); omega), h.lo, h.ld⟩
theorem OpA.later {w wr w2 : World} {L : Lay} {R : RL} {cap : Nat} {qv : Value} {n : Nat} (h : OpA w wr L R cap qv n) (k : Below wr.heap.size wr w2) : OpA w w2 L R cap qv n := h.keeps (Below.keeps k (fun _ => False)) (fun _ e => e.elim)
theorem OpA.set {w wr : World} {L : Lay} {R : RL} {cap : Nat} {qv : Value} {n : Nat} (h : OpA w wr L R cap qv n) (j : Nat) (v : Value) : OpA w (wr.setCell ⟨w.heap.size + 1, j, none⟩ v) L R cap qv n := h.keeps (setB (b := w.heap.size + 1) (j := j) (v := v)) (fun g e => by rw [e]; omega)
/-- An index on each side, or none. -/
def MkQ (W : World) (ab rb lo hi c : Nat) (xo yo : Option Addr) : Prop := (xo = none ∧ yo = none) ∨ ∃ (X Y : XL) (hc nb : Nat), xo = some ⟨X.x, 0, none⟩ ∧ yo = some ⟨Y.x, 0, none⟩ ∧ IxH W ab X (freshX c nb) ∧ RxH W rb Y hc (freshX c nb) ∧ (∀ g, X.has g ∨ Y.has g → lo ≤ g ∧ g < hi) ∧ (∀ g, X.has g → ¬ Y.has g) ∧ c < 2
theorem MkQ.keeps {W W' : World} {ab rb lo hi c : Nat} {xo yo : Option Addr} {D : Nat → Prop} (h : MkQ W ab rb lo hi c xo yo) (k : Keeps D W W') (hD : ∀ g, D g → g < lo) : MkQ W' ab rb lo hi c xo yo := by
  rcases h with h | ⟨X, Y, hc, nb, h1, h2, h3, h4, h5, h6, h7⟩
  · exact .inl h
  · exact .inr ⟨X, Y, hc, nb, h1, h2, h3.keeps k (fun g hg e => by have := hD g e; have := (h5 g (.inl hg)).1; omega), h4.keeps k (fun g hg e => by have := hD g e; have := (h5 g (.inr hg)).1; omega), h5, h6, h7⟩
theorem MkQ.later {W W' : World} {ab rb lo hi c : Nat} {xo yo : Option Addr} (h : MkQ W ab rb lo hi c xo yo) (k : Below W.heap.size W W') : MkQ W' ab rb lo hi c xo yo := h.keeps (Below.keeps k (fun _ => False)) (fun _ e => e.elim)
theorem MkQ.made {w0 w1 w2 : World} {ab rb c nb : Nat} {X Y : XL} {hc : Nat} (h1 : w0.heap.size ≤ X.x ∧ w0.heap.size ≤ X.h) (hx : IxH w1 ab X (freshX c nb)) (b1 : Below w0.heap.size w0 w1) (h2 : w1.heap.size ≤ Y.x ∧ w1.heap.size ≤ Y.h) (hy : RxH w2 rb Y hc (freshX c nb)) (b2 : Below w1.heap.size w1 w2) (hcc : c < 2) : MkQ w2 ab rb w0.heap.size w2.heap.size c (some ⟨X.x, 0, none⟩) (some ⟨Y.x, 0, none⟩) := by
  have s1 := b1.size
  refine .inr ⟨X, Y, hc, nb, rfl, rfl, hx.keeps (Below.keeps b2 (fun _ => False)) (fun _ _ e => e), hy, fun g hg => ?_, fun g hg e => ?_, hcc⟩
  · have l1 := hx.lx
    have l2 := hx.lh
    have l3 := hy.lx
    have l4 := hy.lh
    have s2 := b2.size
    rcases hg with (e | e) | (e | e) <;> exact ⟨by omega, by omega⟩
  · have l1 := hx.lx
    have l2 := hx.lh
    rcases hg with e1 | e1 <;> rcases e with e2 | e2 <;> omega
theorem law_openA (w : World) (B : Nat) (sl ce b0 b1 : Int) (ao : Option Addr) (ln cap : Nat) (hold : Int) (hB : B ≤ w.heap.size) (hs : ¬ (1 ≤ sl ∧ sl ≤ 4096)) : Calls Tryz.prog 57 #[.agg #[.int .i64 sl, .int .i64 ce, .int .i64 b0, .int .i64 b1, .slice ao ln cap], .int .i64 hold] w fun e w' => ∃ wb, e = .returned (.tuple #[.pointer (some ⟨wb, 0, none⟩), .bool true]) ∧ OpnQ w B wb hold w' := by
  obtain ⟨W1, hW1⟩ : ∃ W, (w.alloc (.cells #[.int .i64 sl, .int .i64 ce, .int .i64 b0, .int .i64 b1, .slice ao ln cap] 78)).alloc (.cells #[.pointer none, .pointer none, .pointer none, .pointer none, .pointer none, .pointer none, .slice none 0 0, .int .i64 hold] 176) = W := ⟨_, rfl⟩
  have H1 : Hid (OpB w W1 #[.int .i64 sl, .int .i64 ce, .int .i64 b0, .int .i64 b1, .slice ao ln cap] #[.pointer none, .pointer none, .pointer none, .pointer none, .pointer none, .pointer none, .slice none 0 0, .int .i64 hold]) := by rw [← hW1]; exact OpB.start w _ _
  have HP : Hid (∀ _ : Unit, _) := fun _ => new_refused sl 2 W1 (fun h => hs ⟨h.1, h.2.1⟩)
  have HR : Hid (∀ _ : Unit, _) := fun _ => ref_new_refused sl 2 W1 (fun h => hs ⟨h.1, h.2.1⟩)
  have s0 : W1.cell? ⟨w.heap.size, 0, none⟩ = some (.int .i64 sl) := (cell?_heap H1.out.hs 0).trans rfl
  have v0 : W1.cell? ⟨w.heap.size + 1, 0, none⟩ = some (.pointer none) := (cell?_heap H1.out.hw 0).trans rfl
  have v3 : W1.cell? ⟨w.heap.size + 1, 3, none⟩ = some (.pointer none) := (cell?_heap H1.out.hw 3).trans rfl
  have vf : ∀ j, W1.frozen? ⟨w.heap.size + 1, j, none⟩ = false := fun j => frozen?_heap H1.out.hw j
  clear hs
  go_enter Tryz.func57, Tryz.ntmps57
  go_wp2_with fail
  refine (HP.out ()).mono ?_
  rintro e w1 ⟨rfl, hw1⟩
  rw [hw1]
  clear hw1 w1
  clear HP
  go_wp2_with fail
  refine (HR.out ()).mono ?_
  rintro e w1 ⟨rfl, hw1⟩
  rw [hw1]
  clear hw1 w1
  clear HR
  go_wp2_with fail
  refine (law_num _ _).mono ?_
  rintro e wn ⟨rfl, hwn⟩
  rw [hwn]
  clear hwn wn
  have H2 : Hid (OpB w ((W1.setCell ⟨w.heap.size + 1, 0, none⟩ (.pointer none)).setCell ⟨w.heap.size + 1, 3, none⟩ (.pointer none)) #[.int .i64 sl, .int .i64 ce, .int .i64 b0, .int .i64 b1, .slice ao ln cap] #[.pointer none, .pointer none, .pointer none, .pointer none, .pointer none, .pointer none, .slice none 0 0, .int .i64 hold]) := (H1.out.set 0 (.pointer none)).set 3 (.pointer none)
  go_wp2_with fail
  clear hW1 s0 v0 v3 vf H1
  go_loopw [11] (fun i wr => ∃ t : Nat, t ≤ 2 ∧ i = .int .i64 (t : Int) ∧ OpB w wr #[.int .i64 sl, .int .i64 ce, .int .i64 b0, .int .i64 b1, .slice ao ln cap] #[.pointer none, .pointer none, .pointer none, .pointer none, .pointer none, .pointer none, .slice none 0 0, .int .i64 hold]) (fun i _ => 2 - (intOf i).toNat)
  case atStart => exact ⟨0, by omega, rfl, H2.out⟩
  case round =>
    clear H2
    obtain ⟨t, ht, rfl, hO⟩ := hrel
    have HO : Hid (OpB w wr #[.int .i64 sl, .int .i64 ce, .int .i64 b0, .int .i64 b1, .slice ao ln cap] #[.pointer none, .pointer none, .pointer none, .pointer none, .pointer none, .pointer none, .slice none 0 0, .int .i64 hold]) := hO
    clear hO
    rcases (show t = 0 ∨ t = 1 ∨ t = 2 by omega) with e | e | e
    · subst e
      have sC : wr.cell? ⟨w.heap.size, 1, none⟩ = some (.int .i64 ce) := (cell?_heap HO.out.hs 1).trans rfl
      have sB : wr.cell? ⟨w.heap.size, 2, none⟩ = some (.int .i64 b0) := (cell?_heap HO.out.hs 2).trans rfl
      have u1 : wr.cell? ⟨w.heap.size + 1, 1, none⟩ = some (.pointer none) := (cell?_heap HO.out.hw 1).trans rfl
      have u4 : wr.cell? ⟨w.heap.size + 1, 4, none⟩ = some (.pointer none) := (cell?_heap HO.out.hw 4).trans rfl
      have uf : ∀ j, wr.frozen? ⟨w.heap.size + 1, j, none⟩ = false := fun j => frozen?_heap HO.out.hw j
      have HN : Hid (OpB w ((wr.setCell ⟨w.heap.size + 1, 1, none⟩ (.pointer none)).setCell ⟨w.heap.size + 1, 4, none⟩ (.pointer none)) #[.int .i64 sl, .int .i64 ce, .int .i64 b0, .int .i64 b1, .slice ao ln cap] #[.pointer none, .pointer none, .pointer none, .pointer none, .pointer none, .pointer none, .slice none 0 0, .int .i64 hold]) := (HO.out.set 1 (.pointer none)).set 4 (.pointer none)
      go_wp2_with fail
      refine (ix_new_nil wr _ _).mono ?_
      rintro e w1 ⟨rfl, hw1⟩
      rw [hw1]
      clear hw1 w1
      go_wp2_with fail
      refine (rx_new_nil wr _ _).mono ?_
      rintro e w1 ⟨rfl, hw1⟩
      rw [hw1]
      clear hw1 w1
      go_wp2_with fail
      refine (law_num _ _).mono ?_
      rintro e wn ⟨rfl, hwn⟩
      rw [hwn]
      clear hwn wn
      go_wp2
      go_roundw
      case rel => exact ⟨1, by omega, by go_num, HN.out⟩
      case measure => simp [intOf]
    · subst e
      have sC : wr.cell? ⟨w.heap.size, 1, none⟩ = some (.int .i64 ce) := (cell?_heap HO.out.hs 1).trans rfl
      have sB : wr.cell? ⟨w.heap.size, 3, none⟩ = some (.int .i64 b1) := (cell?_heap HO.out.hs 3).trans rfl
      have u1 : wr.cell? ⟨w.heap.size + 1, 2, none⟩ = some (.pointer none) := (cell?_heap HO.out.hw 2).trans rfl
      have u4 : wr.cell? ⟨w.heap.size + 1, 5, none⟩ = some (.pointer none) := (cell?_heap HO.out.hw 5).trans rfl
      have uf : ∀ j, wr.frozen? ⟨w.heap.size + 1, j, none⟩ = false := fun j => frozen?_heap HO.out.hw j
      have HN : Hid (OpB w ((wr.setCell ⟨w.heap.size + 1, 2, none⟩ (.pointer none)).setCell ⟨w.heap.size + 1, 5, none⟩ (.pointer none)) #[.int .i64 sl, .int .i64 ce, .int .i64 b0, .int .i64 b1, .slice ao ln cap] #[.pointer none, .pointer none, .pointer none, .pointer none, .pointer none, .pointer none, .slice none 0 0, .int .i64 hold]) := (HO.out.set 2 (.pointer none)).set 5 (.pointer none)
      go_wp2_with fail
      refine (ix_new_nil wr _ _).mono ?_
      rintro e w1 ⟨rfl, hw1⟩
      rw [hw1]
      clear hw1 w1
      go_wp2_with fail
      refine (rx_new_nil wr _ _).mono ?_
      rintro e w1 ⟨rfl, hw1⟩
      rw [hw1]
      clear hw1 w1
      go_wp2_with fail
      refine (law_num _ _).mono ?_
      rintro e wn ⟨rfl, hwn⟩
      rw [hwn]
      clear hwn wn
      go_wp2
      go_roundw
      case rel => exact ⟨2, by omega, by go_num, HN.out⟩
      case measure => simp [intOf]
    · subst e
      go_wp2
      go_ret2
      exact ⟨w.heap.size + 1, rfl, .inl ⟨none, none, none, (cell?_heap HO.out.hw 3).trans rfl, (cell?_heap HO.out.hw 4).trans rfl, (cell?_heap HO.out.hw 5).trans rfl, .inl rfl⟩, HO.out.b.mono hB⟩
end Go.Proofs.YtdjklcmkcccpeaaGreat

namespace Go.Proofs.YtdjklcmkcccpeaaGreat
open Go.ChangeShapes Go.WideShapes Go.ChangeAt Go.RowKit Go.MuLone Go.RwLone
set_option linter.unusedVariables false
set_option maxRecDepth 100000
set_option maxHeartbeats 6400000
/-- Both arenas and t indexes of each side. -/
def OpT (w wr : World) (sc : Array Value) (hold : Int) (L : Lay) (R : RL) (cap : Nat) (qv : Value) (n : Nat) (c0 c1 : Nat) (t : Nat) : Prop :=
  OpA w wr L R cap qv n ∧ ∃ (x0 x1 y0 y1 : Option Addr) (N0 N1 N2 : Nat), OpB w wr sc #[.pointer (some ⟨L.b, 0, none⟩), .pointer x0, .pointer x1, .pointer (some ⟨R.b, 0, none⟩), .pointer y0, .pointer y1, .slice none 0 0, .int .i64 hold] ∧ (∀ g, L.has g ∨ raF R qv (.fresh n 2) g → g < N0) ∧ w.heap.size + 2 ≤ N0 ∧ N0 ≤ N1 ∧ N1 ≤ N2 ∧ N2 ≤ wr.heap.size ∧
    (t = 0 → x0 = none ∧ y0 = none) ∧ (t ≤ 1 → x1 = none ∧ y1 = none) ∧ (0 < t → MkQ wr L.b R.b N0 N1 c0 x0 y0) ∧ (1 < t → MkQ wr L.b R.b N1 N2 c1 x1 y1)
theorem OpT.opn {w wr : World} {sc : Array Value} {hold : Int} {L : Lay} {R : RL} {cap : Nat} {qv : Value} {n c0 c1 B : Nat} (h : OpT w wr sc hold L R cap qv n c0 c1 2) (hB : B ≤ w.heap.size) : OpnQ w B (w.heap.size + 1) hold wr := by
  obtain ⟨hA, x0, x1, y0, y1, N0, N1, N2, hb, q1, q2, q3, q4, q5, -, -, m0, m1⟩ := h
  have m0 := m0 (by decide)
  have m1 := m1 (by decide)
  refine ⟨?_, hb.b.mono hB⟩
  rcases m0 with ⟨e1, e2⟩ | ⟨X0, Y0, hc0, nb0, e1, e2, i0, j0, l0, d0, k0⟩
  · exact .inl ⟨_, y0, y1, (cell?_heap hb.hw 3).trans rfl, (cell?_heap hb.hw 4).trans rfl, (cell?_heap hb.hw 5).trans rfl, .inr (.inl e2)⟩
  rcases m1 with ⟨e3, e4⟩ | ⟨X1, Y1, hc1, nb1, e3, e4, i1, j1, l1, d1, k1⟩
  · exact .inl ⟨_, y0, y1, (cell?_heap hb.hw 3).trans rfl, (cell?_heap hb.hw 4).trans rfl, (cell?_heap hb.hw 5).trans rfl, .inr (.inr e4)⟩
  subst e1 e2 e3 e4
  right
  have hz : w.heap.size + 2 ≤ wr.heap.size := by omega
  have two : ∀ i, i < 2 → i = 0 ∨ i = 1 := fun i hi => by omega
  -- where the indexes lie
  have lX : ∀ i, i < 2 → ∀ g, ((if i = 0 then X0 else X1) : XL).has g → N0 ≤ g := fun i hi g hg => by
    rcases two i hi with rfl | rfl
    · exact (l0 g (.inl hg)).1
    · have := (l1 g (.inl hg)).1; omega
  have lY : ∀ i, i < 2 → ∀ g, ((if i = 0 then Y0 else Y1) : XL).has g → N0 ≤ g := fun i hi g hg => by
    rcases two i hi with rfl | rfl
    · exact (l0 g (.inr hg)).1
    · have := (l1 g (.inr hg)).1; omega
  have dXY : ∀ i j, i < 2 → j < 2 → ∀ g, ((if i = 0 then X0 else X1) : XL).has g → ¬ ((if j = 0 then Y0 else Y1) : XL).has g := fun i j hi hj g hg e => by
    rcases two i hi with rfl | rfl <;> rcases two j hj with rfl | rfl
    · exact d0 g hg e
    · have := (l0 g (.inl hg)).2
      have := (l1 g (.inr e)).1
      omega
    · have := (l1 g (.inl hg)).1
      have := (l0 g (.inr e)).2
      omega
    · exact d1 g hg e
  refine ⟨⟨L, fun i => if i = 0 then X0 else X1, R, cap, fun i => if i = 0 then Y0 else Y1, fun i => if i = 0 then hc0 else hc1⟩, qv, .slice none 0 0, ⟨AS.fresh n 2, List.range n, fun i => if i = 0 then freshX c0 nb0 else freshX c1 nb1, []⟩, ⟨⟨hA.ar, fun i hi => ?_, hA.rr, fun i hi => ?_, fun m hm => absurd hm (List.not_mem_nil), List.Pairwise.nil, fun i hi g hg e => ?_, fun g hg e => ?_, fun i hi g hg e => ?_, fun g hg e => ?_, fun g hg e => ?_, fun i hi => ?_, fun i hi => ?_⟩, (cell?_heap hb.hw 0).trans rfl, fun i hi => ?_, (cell?_heap hb.hw 3).trans rfl, fun i hi => ?_, (cell?_heap hb.hw 6).trans rfl, (cell?_heap hb.hw 7).trans rfl, fun j => frozen?_heap hb.hw j, OwG.nil _ _ _ _ _, lt_heap hb.hw, by omega, fun e => ?_, fun g hg => (by cases hg), fun g hg => ?_⟩, rfl⟩
  · rcases two i hi with rfl | rfl
    · exact i0
    · exact i1
  · rcases two i hi with rfl | rfl
    · exact j0
    · exact j1
  · have := lX i hi g hg
    have := q1 g (.inl e)
    omega
  · have := (l0 g (.inl hg)).2
    have := (l1 g (.inl e)).1
    omega
  · have := lY i hi g hg
    have := q1 g (.inr e)
    omega
  · have := (l0 g (.inr hg)).2
    have := (l1 g (.inr e)).1
    omega
  · rcases hg with hg | ⟨i, hi, hg⟩
    · rcases e with e | ⟨j, hj, e⟩
      · exact hA.ld g hg e
      · have := lY j hj g e
        have := q1 g (.inl hg)
        omega
    · rcases e with e | ⟨j, hj, e⟩
      · have := lX i hi g hg
        have := q1 g (.inr e)
        omega
      · exact dXY i j hi hj g hg e
  · rcases two i hi with rfl | rfl
    · exact k0
    · exact k1
  · refine ⟨fun j => ⟨by show (0 : Int) ≤ 0; decide, by show (0 : Int) ≤ 4294967295; decide⟩, fun b hb' => ?_⟩
    rcases two i hi with rfl | rfl
    · have := i0.nb.2
      have hb' : b < nb0 := hb'
      have : nb0 ≤ 256 := i0.nb.2
      exact ⟨by show (0 : Int) ≤ 2 * (4097 + (b : Int)); omega, by show 2 * (4097 + (b : Int)) ≤ 4294967295; omega⟩
    · have hb' : b < nb1 := hb'
      have : nb1 ≤ 256 := i1.nb.2
      exact ⟨by show (0 : Int) ≤ 2 * (4097 + (b : Int)); omega, by show 2 * (4097 + (b : Int)) ≤ 4294967295; omega⟩
  · rcases two i hi with rfl | rfl
    · exact (cell?_heap hb.hw 1).trans rfl
    · exact (cell?_heap hb.hw 2).trans rfl
  · rcases two i hi with rfl | rfl
    · exact (cell?_heap hb.hw 4).trans rfl
    · exact (cell?_heap hb.hw 5).trans rfl
  · rcases e with (e | ⟨i, hi, e⟩) | (e | ⟨i, hi, e⟩) | ⟨m, hm, _⟩
    · have := hA.lo _ (.inl e); omega
    · have := lX i hi _ e; omega
    · have := hA.lo _ (.inr e); omega
    · have := lY i hi _ e; omega
    · cases hm
  · rcases hg with (e | ⟨i, hi, e⟩) | (e | ⟨i, hi, e⟩) | ⟨m, hm, _⟩
    · have := hA.lo _ (.inl e); omega
    · have := lX i hi _ e; omega
    · have := hA.lo _ (.inr e); omega
    · have := lY i hi _ e; omega
    · cases hm
theorem law_openC (w : World) (B : Nat) (sl ce b0 b1 : Int) (ao : Option Addr) (ln cap : Nat) (hold : Int) (hB : B ≤ w.heap.size) (n : Nat) (hs : sl = (n : Int)) (hn : 1 ≤ n ∧ n ≤ 4096) (c1i : Int) (hc1 : wrap64 (1 - ce) = c1i) : Calls Tryz.prog 57 #[.agg #[.int .i64 sl, .int .i64 ce, .int .i64 b0, .int .i64 b1, .slice ao ln cap], .int .i64 hold] w fun e w' => ∃ wb, e = .returned (.tuple #[.pointer (some ⟨wb, 0, none⟩), .bool true]) ∧ OpnQ w B wb hold w' := by
  subst hs
  obtain ⟨W1, hW1⟩ : ∃ W, (w.alloc (.cells #[.int .i64 (n : Int), .int .i64 ce, .int .i64 b0, .int .i64 b1, .slice ao ln cap] 78)).alloc (.cells #[.pointer none, .pointer none, .pointer none, .pointer none, .pointer none, .pointer none, .slice none 0 0, .int .i64 hold] 176) = W := ⟨_, rfl⟩
  have H1 : Hid (OpB w W1 #[.int .i64 (n : Int), .int .i64 ce, .int .i64 b0, .int .i64 b1, .slice ao ln cap] #[.pointer none, .pointer none, .pointer none, .pointer none, .pointer none, .pointer none, .slice none 0 0, .int .i64 hold]) := by rw [← hW1]; exact OpB.start w _ _
  have HP : Hid (∀ _ : Unit, Calls Tryz.prog 38 #[.int .i64 (n : Int), .int .i64 2] W1 fun e w' => ∃ L, e = .returned (.tuple #[.pointer (some ⟨L.b, 0, none⟩), .int .i64 0]) ∧ (∀ g, L.has g → W1.heap.size ≤ g) ∧ Arn w' L (List.range n) (.fresh n 2) ∧ Below W1.heap.size W1 w') := fun _ => arn_new n 2 W1 hn.1 hn.2 (by decide) (by decide)
  have s0 : W1.cell? ⟨w.heap.size, 0, none⟩ = some (.int .i64 (n : Int)) := (cell?_heap H1.out.hs 0).trans rfl
  have HZ : Hid (w.heap.size + 2 ≤ W1.heap.size) := by show _ ≤ _; rw [← hW1]; simp
  go_enter Tryz.func57, Tryz.ntmps57
  go_wp2_with fail
  refine (HP.out ()).mono ?_
  rintro e w2 ⟨L, rfl, hL, hA, hb2⟩
  have H2 : Hid (OpB w w2 #[.int .i64 (n : Int), .int .i64 ce, .int .i64 b0, .int .i64 b1, .slice ao ln cap] #[.pointer none, .pointer none, .pointer none, .pointer none, .pointer none, .pointer none, .slice none 0 0, .int .i64 hold] ∧ Arn w2 L (List.range n) (.fresh n 2) ∧ (∀ g, L.has g → w.heap.size + 2 ≤ g) ∧ w.heap.size + 2 ≤ w2.heap.size) := ⟨H1.out.later hb2, hA, fun g hg => Nat.le_trans HZ.out (hL g hg), Nat.le_trans HZ.out hb2.size⟩
  clear hL hA hb2 HP H1 hW1 s0 HZ
  have s0 : w2.cell? ⟨w.heap.size, 0, none⟩ = some (.int .i64 (n : Int)) := (cell?_heap H2.out.1.hs 0).trans rfl
  have HR : Hid (∀ _ : Unit, Calls Tryz.prog 98 #[.int .i64 (n : Int), .int .i64 2] w2 fun e w' => ∃ vS vQ, e = .returned (.tuple #[.pointer (some ⟨w2.heap.size, 0, none⟩), .int .i64 0]) ∧ RefM w2 w2.heap.size 2 (n + 1) n vS vQ w') := fun _ => ref_newM n 2 w2 hn.1 hn.2 (by decide) (by decide)
  go_wp2_with fail
  refine (HR.out ()).mono ?_
  rintro e w3 ⟨vS, qv, rfl, hM⟩
  obtain ⟨sb, cap', h1, hr, hF⟩ := hM.ra hn.1 hn.2 (by decide) (by decide)
  obtain ⟨R, hRe⟩ : ∃ R : RL, (⟨w2.heap.size, sb, fun _ => 0⟩ : RL) = R := ⟨_, rfl⟩
  have hRb : w2.heap.size = R.b := by rw [← hRe]
  rw [hRe] at hr hF
  have HA : Hid (OpA w w3 L R cap' qv n ∧ OpB w w3 #[.int .i64 (n : Int), .int .i64 ce, .int .i64 b0, .int .i64 b1, .slice ao ln cap] #[.pointer none, .pointer none, .pointer none, .pointer none, .pointer none, .pointer none, .slice none 0 0, .int .i64 hold]) := by
    obtain ⟨a1, a2, a3, a4⟩ := H2.out
    refine ⟨⟨a2.keeps (Below.keeps hM.low (fun _ => False)) (fun _ _ e => e), hr, fun g hg => ?_, fun g hg e => ?_⟩, a1.later hM.low⟩
    · rcases hg with e | e
      · exact a3 g e
      · exact Nat.le_trans a4 (hF g e)
    · have := hF g e
      have := a2.h.lt g hg
      omega
  rw [hRb]
  clear hM h1 hr hF hRe HR H2 s0 hRb
  have v0 : w3.cell? ⟨w.heap.size + 1, 0, none⟩ = some (.pointer none) := (cell?_heap HA.out.2.hw 0).trans rfl
  have v3 : w3.cell? ⟨w.heap.size + 1, 3, none⟩ = some (.pointer none) := (cell?_heap HA.out.2.hw 3).trans rfl
  have vf : ∀ j, w3.frozen? ⟨w.heap.size + 1, j, none⟩ = false := fun j => frozen?_heap HA.out.2.hw j
  have H4 : Hid (OpT w ((w3.setCell ⟨w.heap.size + 1, 0, none⟩ (.pointer (some ⟨L.b, 0, none⟩))).setCell ⟨w.heap.size + 1, 3, none⟩ (.pointer (some ⟨R.b, 0, none⟩))) #[.int .i64 (n : Int), .int .i64 ce, .int .i64 b0, .int .i64 b1, .slice ao ln cap] hold L R cap' qv n ce.toNat c1i.toNat 0) := by
    obtain ⟨a, b⟩ := HA.out
    have hh : w.heap.size + 2 ≤ w3.heap.size := by have := a.lo L.b (.inl (.inl rfl)); have := a.ar.h.lb; omega
    refine ⟨(a.set 0 _).set 3 _, none, none, none, none, w3.heap.size, w3.heap.size, w3.heap.size, (b.set 0 (.pointer (some ⟨L.b, 0, none⟩))).set 3 (.pointer (some ⟨R.b, 0, none⟩)), fun g hg => ?_, hh, Nat.le_refl _, Nat.le_refl _, by simp, fun _ => ⟨rfl, rfl⟩, fun _ => ⟨rfl, rfl⟩, fun e => absurd e (by decide), fun e => absurd e (by decide)⟩
    rcases hg with e | e
    · exact a.ar.h.lt g e
    · exact a.rr.lt g e
  go_wp2_with fail
  refine (law_num _ _).mono ?_
  rintro e wn ⟨rfl, hwn⟩
  rw [hwn]
  clear hwn wn
  go_wp2_with fail
  clear v0 v3 vf HA
  go_loopw [11] (fun i wr => ∃ t : Nat, t ≤ 2 ∧ i = .int .i64 (t : Int) ∧ OpT w wr #[.int .i64 (n : Int), .int .i64 ce, .int .i64 b0, .int .i64 b1, .slice ao ln cap] hold L R cap' qv n ce.toNat c1i.toNat t) (fun i _ => 2 - (intOf i).toNat)
  case atStart => exact ⟨0, by omega, rfl, H4.out⟩
  case round =>
    clear H4
    obtain ⟨t, ht, rfl, hO⟩ := hrel
    rcases (show t = 0 ∨ t = 1 ∨ t = 2 by omega) with e | e | e
    · subst e
      obtain ⟨hA, x0, x1, y0, y1, N0, N1, N2, hb, q1, q2, q3, q4, q5, z0, z1, -, -⟩ := hO
      obtain ⟨rfl, rfl⟩ := z0 rfl
      obtain ⟨rfl, rfl⟩ := z1 (by decide)
      have HO : Hid (OpA w wr L R cap' qv n ∧ OpB w wr #[.int .i64 (n : Int), .int .i64 ce, .int .i64 b0, .int .i64 b1, .slice ao ln cap] #[.pointer (some ⟨L.b, 0, none⟩), .pointer none, .pointer none, .pointer (some ⟨R.b, 0, none⟩), .pointer none, .pointer none, .slice none 0 0, .int .i64 hold] ∧ (∀ g, L.has g ∨ raF R qv (.fresh n 2) g → g < wr.heap.size) ∧ w.heap.size + 2 ≤ wr.heap.size) := ⟨hA, hb, fun g hg => by have := q1 g hg; omega, by omega⟩
      clear hA hb q1 q2 q3 q4 q5 z0 z1
      have sC : wr.cell? ⟨w.heap.size, 1, none⟩ = some (.int .i64 ce) := (cell?_heap HO.out.2.1.hs 1).trans rfl
      have sB : wr.cell? ⟨w.heap.size, 2, none⟩ = some (.int .i64 b0) := (cell?_heap HO.out.2.1.hs 2).trans rfl
      have u1 : wr.cell? ⟨w.heap.size + 1, 1, none⟩ = some (.pointer none) := (cell?_heap HO.out.2.1.hw 1).trans rfl
      have u4 : wr.cell? ⟨w.heap.size + 1, 4, none⟩ = some (.pointer none) := (cell?_heap HO.out.2.1.hw 4).trans rfl
      have uf : ∀ j, wr.frozen? ⟨w.heap.size + 1, j, none⟩ = false := fun j => frozen?_heap HO.out.2.1.hw j
      by_cases hbad : ce < 0
      · have hgood : True := trivial
        have HX : Hid (∀ _ : Unit, _) := fun _ => ix_new_c0 L (AS.fresh n 2) wr HO.out.1.ar.h ce b0 hbad
        have HY : Hid (∀ _ : Unit, _) := fun _ => rx_new_c0 wr.drew R cap' qv (List.range n) (AS.fresh n 2) (HO.out.1.later (Below.refl _ _).drew).rr ce b0 hbad
        go_wp2_with fail
        refine (HX.out ()).mono ?_
        rintro e w5 ⟨rfl, hw5⟩
        rw [hw5]
        clear hw5 w5 HX
        go_wp2_with fail
        refine (HY.out ()).mono ?_
        rintro e w6 ⟨rfl, hw6⟩
        rw [hw6]
        clear hw6 w6 HY
        have H6 : Hid (OpA w wr.drew.drew L R cap' qv n ∧ OpB w wr.drew.drew #[.int .i64 (n : Int), .int .i64 ce, .int .i64 b0, .int .i64 b1, .slice ao ln cap] #[.pointer (some ⟨L.b, 0, none⟩), .pointer none, .pointer none, .pointer (some ⟨R.b, 0, none⟩), .pointer none, .pointer none, .slice none 0 0, .int .i64 hold] ∧ MkQ wr.drew.drew L.b R.b wr.heap.size wr.drew.drew.heap.size ce.toNat none none ∧ Below wr.heap.size wr wr.drew.drew) := ⟨(HO.out.1.later (Below.refl _ _).drew).later (Below.refl _ _).drew, HO.out.2.1.drew.drew, .inl ⟨rfl, rfl⟩, (Below.refl _ _).drew.drew⟩
        clear sC sB u1 u4 uf
        generalize wr.drew.drew = w6 at *
        have sC : w6.cell? ⟨w.heap.size, 1, none⟩ = some (.int .i64 ce) := (cell?_heap H6.out.2.1.hs 1).trans rfl
        have sB : w6.cell? ⟨w.heap.size, 2, none⟩ = some (.int .i64 b0) := (cell?_heap H6.out.2.1.hs 2).trans rfl
        have u1 : w6.cell? ⟨w.heap.size + 1, 1, none⟩ = some (.pointer none) := (cell?_heap H6.out.2.1.hw 1).trans rfl
        have u4 : w6.cell? ⟨w.heap.size + 1, 4, none⟩ = some (.pointer none) := (cell?_heap H6.out.2.1.hw 4).trans rfl
        have uf : ∀ j, w6.frozen? ⟨w.heap.size + 1, j, none⟩ = false := fun j => frozen?_heap H6.out.2.1.hw j
        have HN : Hid (OpT w ((w6.setCell ⟨w.heap.size + 1, 1, none⟩ (.pointer none)).setCell ⟨w.heap.size + 1, 4, none⟩ (.pointer none)) #[.int .i64 (n : Int), .int .i64 ce, .int .i64 b0, .int .i64 b1, .slice ao ln cap] hold L R cap' qv n ce.toNat c1i.toNat 1) := by
          obtain ⟨a, b, m, k⟩ := H6.out
          obtain ⟨-, -, q1, q2⟩ := HO.out
          have kS : Keeps (fun g => g = w.heap.size + 1) w6 ((w6.setCell ⟨w.heap.size + 1, 1, none⟩ (.pointer none)).setCell ⟨w.heap.size + 1, 4, none⟩ (.pointer none)) := setB.trans setB
          refine ⟨(a.set 1 _).set 4 _, none, none, none, none, wr.heap.size, w6.heap.size, w6.heap.size, (b.set 1 (.pointer none)).set 4 (.pointer none), q1, q2, k.size, Nat.le_refl _, by simp, fun e => absurd e (by decide), fun _ => ⟨rfl, rfl⟩, fun _ => ?_, fun e => absurd e (by decide)⟩
          skip
          exact m.keeps kS (fun g e => by rw [e]; omega)
        go_wp2_with fail
        refine (law_num _ _).mono ?_
        rintro e wn ⟨rfl, hwn⟩
        rw [hwn]
        clear hwn wn
        go_wp2
        go_roundw
        case rel => exact ⟨1, by omega, by go_num, HN.out⟩
        case measure => simp [intOf]
      have hgood : ¬ ce < 0 ∧ True := ⟨hbad, trivial⟩
      clear hbad
      by_cases hbad : ce ≥ ((AS.fresh n 2).wd : Int)
      · have HX : Hid (∀ _ : Unit, _) := fun _ => ix_new_c1 L (AS.fresh n 2) wr HO.out.1.ar.h ce b0 hgood.1 hbad
        have HY : Hid (∀ _ : Unit, _) := fun _ => rx_new_c1 wr.drew R cap' qv (List.range n) (AS.fresh n 2) (HO.out.1.later (Below.refl _ _).drew).rr ce b0 hgood.1 hbad
        go_wp2_with fail
        refine (HX.out ()).mono ?_
        rintro e w5 ⟨rfl, hw5⟩
        rw [hw5]
        clear hw5 w5 HX
        go_wp2_with fail
        refine (HY.out ()).mono ?_
        rintro e w6 ⟨rfl, hw6⟩
        rw [hw6]
        clear hw6 w6 HY
        have H6 : Hid (OpA w wr.drew.drew L R cap' qv n ∧ OpB w wr.drew.drew #[.int .i64 (n : Int), .int .i64 ce, .int .i64 b0, .int .i64 b1, .slice ao ln cap] #[.pointer (some ⟨L.b, 0, none⟩), .pointer none, .pointer none, .pointer (some ⟨R.b, 0, none⟩), .pointer none, .pointer none, .slice none 0 0, .int .i64 hold] ∧ MkQ wr.drew.drew L.b R.b wr.heap.size wr.drew.drew.heap.size ce.toNat none none ∧ Below wr.heap.size wr wr.drew.drew) := ⟨(HO.out.1.later (Below.refl _ _).drew).later (Below.refl _ _).drew, HO.out.2.1.drew.drew, .inl ⟨rfl, rfl⟩, (Below.refl _ _).drew.drew⟩
        clear sC sB u1 u4 uf
        generalize wr.drew.drew = w6 at *
        have sC : w6.cell? ⟨w.heap.size, 1, none⟩ = some (.int .i64 ce) := (cell?_heap H6.out.2.1.hs 1).trans rfl
        have sB : w6.cell? ⟨w.heap.size, 2, none⟩ = some (.int .i64 b0) := (cell?_heap H6.out.2.1.hs 2).trans rfl
        have u1 : w6.cell? ⟨w.heap.size + 1, 1, none⟩ = some (.pointer none) := (cell?_heap H6.out.2.1.hw 1).trans rfl
        have u4 : w6.cell? ⟨w.heap.size + 1, 4, none⟩ = some (.pointer none) := (cell?_heap H6.out.2.1.hw 4).trans rfl
        have uf : ∀ j, w6.frozen? ⟨w.heap.size + 1, j, none⟩ = false := fun j => frozen?_heap H6.out.2.1.hw j
        have HN : Hid (OpT w ((w6.setCell ⟨w.heap.size + 1, 1, none⟩ (.pointer none)).setCell ⟨w.heap.size + 1, 4, none⟩ (.pointer none)) #[.int .i64 (n : Int), .int .i64 ce, .int .i64 b0, .int .i64 b1, .slice ao ln cap] hold L R cap' qv n ce.toNat c1i.toNat 1) := by
          obtain ⟨a, b, m, k⟩ := H6.out
          obtain ⟨-, -, q1, q2⟩ := HO.out
          have kS : Keeps (fun g => g = w.heap.size + 1) w6 ((w6.setCell ⟨w.heap.size + 1, 1, none⟩ (.pointer none)).setCell ⟨w.heap.size + 1, 4, none⟩ (.pointer none)) := setB.trans setB
          refine ⟨(a.set 1 _).set 4 _, none, none, none, none, wr.heap.size, w6.heap.size, w6.heap.size, (b.set 1 (.pointer none)).set 4 (.pointer none), q1, q2, k.size, Nat.le_refl _, by simp, fun e => absurd e (by decide), fun _ => ⟨rfl, rfl⟩, fun _ => ?_, fun e => absurd e (by decide)⟩
          skip
          exact m.keeps kS (fun g e => by rw [e]; omega)
        go_wp2_with fail
        refine (law_num _ _).mono ?_
        rintro e wn ⟨rfl, hwn⟩
        rw [hwn]
        clear hwn wn
        go_wp2
        go_roundw
        case rel => exact ⟨1, by omega, by go_num, HN.out⟩
        case measure => simp [intOf]
      replace hgood : ¬ ce < 0 ∧ ¬ ce ≥ ((AS.fresh n 2).wd : Int) := ⟨hgood.1, hbad⟩
      clear hbad
      by_cases hbad : b0 < 1
      · have HX : Hid (∀ _ : Unit, _) := fun _ => ix_new_b0 L (AS.fresh n 2) wr HO.out.1.ar.h ce b0 hgood.1 hgood.2 hbad
        have HY : Hid (∀ _ : Unit, _) := fun _ => rx_new_b0 wr.drew R cap' qv (List.range n) (AS.fresh n 2) (HO.out.1.later (Below.refl _ _).drew).rr ce b0 hgood.1 hgood.2 hbad
        go_wp2_with fail
        refine (HX.out ()).mono ?_
        rintro e w5 ⟨rfl, hw5⟩
        rw [hw5]
        clear hw5 w5 HX
        go_wp2_with fail
        refine (HY.out ()).mono ?_
        rintro e w6 ⟨rfl, hw6⟩
        rw [hw6]
        clear hw6 w6 HY
        have H6 : Hid (OpA w wr.drew.drew L R cap' qv n ∧ OpB w wr.drew.drew #[.int .i64 (n : Int), .int .i64 ce, .int .i64 b0, .int .i64 b1, .slice ao ln cap] #[.pointer (some ⟨L.b, 0, none⟩), .pointer none, .pointer none, .pointer (some ⟨R.b, 0, none⟩), .pointer none, .pointer none, .slice none 0 0, .int .i64 hold] ∧ MkQ wr.drew.drew L.b R.b wr.heap.size wr.drew.drew.heap.size ce.toNat none none ∧ Below wr.heap.size wr wr.drew.drew) := ⟨(HO.out.1.later (Below.refl _ _).drew).later (Below.refl _ _).drew, HO.out.2.1.drew.drew, .inl ⟨rfl, rfl⟩, (Below.refl _ _).drew.drew⟩
        clear sC sB u1 u4 uf
        generalize wr.drew.drew = w6 at *
        have sC : w6.cell? ⟨w.heap.size, 1, none⟩ = some (.int .i64 ce) := (cell?_heap H6.out.2.1.hs 1).trans rfl
        have sB : w6.cell? ⟨w.heap.size, 2, none⟩ = some (.int .i64 b0) := (cell?_heap H6.out.2.1.hs 2).trans rfl
        have u1 : w6.cell? ⟨w.heap.size + 1, 1, none⟩ = some (.pointer none) := (cell?_heap H6.out.2.1.hw 1).trans rfl
        have u4 : w6.cell? ⟨w.heap.size + 1, 4, none⟩ = some (.pointer none) := (cell?_heap H6.out.2.1.hw 4).trans rfl
        have uf : ∀ j, w6.frozen? ⟨w.heap.size + 1, j, none⟩ = false := fun j => frozen?_heap H6.out.2.1.hw j
        have HN : Hid (OpT w ((w6.setCell ⟨w.heap.size + 1, 1, none⟩ (.pointer none)).setCell ⟨w.heap.size + 1, 4, none⟩ (.pointer none)) #[.int .i64 (n : Int), .int .i64 ce, .int .i64 b0, .int .i64 b1, .slice ao ln cap] hold L R cap' qv n ce.toNat c1i.toNat 1) := by
          obtain ⟨a, b, m, k⟩ := H6.out
          obtain ⟨-, -, q1, q2⟩ := HO.out
          have kS : Keeps (fun g => g = w.heap.size + 1) w6 ((w6.setCell ⟨w.heap.size + 1, 1, none⟩ (.pointer none)).setCell ⟨w.heap.size + 1, 4, none⟩ (.pointer none)) := setB.trans setB
          refine ⟨(a.set 1 _).set 4 _, none, none, none, none, wr.heap.size, w6.heap.size, w6.heap.size, (b.set 1 (.pointer none)).set 4 (.pointer none), q1, q2, k.size, Nat.le_refl _, by simp, fun e => absurd e (by decide), fun _ => ⟨rfl, rfl⟩, fun _ => ?_, fun e => absurd e (by decide)⟩
          skip
          exact m.keeps kS (fun g e => by rw [e]; omega)
        go_wp2_with fail
        refine (law_num _ _).mono ?_
        rintro e wn ⟨rfl, hwn⟩
        rw [hwn]
        clear hwn wn
        go_wp2
        go_roundw
        case rel => exact ⟨1, by omega, by go_num, HN.out⟩
        case measure => simp [intOf]
      replace hgood : ¬ ce < 0 ∧ ¬ ce ≥ ((AS.fresh n 2).wd : Int) ∧ ¬ b0 < 1 := ⟨hgood.1, hgood.2, hbad⟩
      clear hbad
      by_cases hbad : b0 > 256
      · have HX : Hid (∀ _ : Unit, _) := fun _ => ix_new_b1 L (AS.fresh n 2) wr HO.out.1.ar.h ce b0 hgood.1 hgood.2.1 hgood.2.2 hbad
        have HY : Hid (∀ _ : Unit, _) := fun _ => rx_new_b1 wr.drew R cap' qv (List.range n) (AS.fresh n 2) (HO.out.1.later (Below.refl _ _).drew).rr ce b0 hgood.1 hgood.2.1 hgood.2.2 hbad
        go_wp2_with fail
        refine (HX.out ()).mono ?_
        rintro e w5 ⟨rfl, hw5⟩
        rw [hw5]
        clear hw5 w5 HX
        go_wp2_with fail
        refine (HY.out ()).mono ?_
        rintro e w6 ⟨rfl, hw6⟩
        rw [hw6]
        clear hw6 w6 HY
        have H6 : Hid (OpA w wr.drew.drew L R cap' qv n ∧ OpB w wr.drew.drew #[.int .i64 (n : Int), .int .i64 ce, .int .i64 b0, .int .i64 b1, .slice ao ln cap] #[.pointer (some ⟨L.b, 0, none⟩), .pointer none, .pointer none, .pointer (some ⟨R.b, 0, none⟩), .pointer none, .pointer none, .slice none 0 0, .int .i64 hold] ∧ MkQ wr.drew.drew L.b R.b wr.heap.size wr.drew.drew.heap.size ce.toNat none none ∧ Below wr.heap.size wr wr.drew.drew) := ⟨(HO.out.1.later (Below.refl _ _).drew).later (Below.refl _ _).drew, HO.out.2.1.drew.drew, .inl ⟨rfl, rfl⟩, (Below.refl _ _).drew.drew⟩
        clear sC sB u1 u4 uf
        generalize wr.drew.drew = w6 at *
        have sC : w6.cell? ⟨w.heap.size, 1, none⟩ = some (.int .i64 ce) := (cell?_heap H6.out.2.1.hs 1).trans rfl
        have sB : w6.cell? ⟨w.heap.size, 2, none⟩ = some (.int .i64 b0) := (cell?_heap H6.out.2.1.hs 2).trans rfl
        have u1 : w6.cell? ⟨w.heap.size + 1, 1, none⟩ = some (.pointer none) := (cell?_heap H6.out.2.1.hw 1).trans rfl
        have u4 : w6.cell? ⟨w.heap.size + 1, 4, none⟩ = some (.pointer none) := (cell?_heap H6.out.2.1.hw 4).trans rfl
        have uf : ∀ j, w6.frozen? ⟨w.heap.size + 1, j, none⟩ = false := fun j => frozen?_heap H6.out.2.1.hw j
        have HN : Hid (OpT w ((w6.setCell ⟨w.heap.size + 1, 1, none⟩ (.pointer none)).setCell ⟨w.heap.size + 1, 4, none⟩ (.pointer none)) #[.int .i64 (n : Int), .int .i64 ce, .int .i64 b0, .int .i64 b1, .slice ao ln cap] hold L R cap' qv n ce.toNat c1i.toNat 1) := by
          obtain ⟨a, b, m, k⟩ := H6.out
          obtain ⟨-, -, q1, q2⟩ := HO.out
          have kS : Keeps (fun g => g = w.heap.size + 1) w6 ((w6.setCell ⟨w.heap.size + 1, 1, none⟩ (.pointer none)).setCell ⟨w.heap.size + 1, 4, none⟩ (.pointer none)) := setB.trans setB
          refine ⟨(a.set 1 _).set 4 _, none, none, none, none, wr.heap.size, w6.heap.size, w6.heap.size, (b.set 1 (.pointer none)).set 4 (.pointer none), q1, q2, k.size, Nat.le_refl _, by simp, fun e => absurd e (by decide), fun _ => ⟨rfl, rfl⟩, fun _ => ?_, fun e => absurd e (by decide)⟩
          skip
          exact m.keeps kS (fun g e => by rw [e]; omega)
        go_wp2_with fail
        refine (law_num _ _).mono ?_
        rintro e wn ⟨rfl, hwn⟩
        rw [hwn]
        clear hwn wn
        go_wp2
        go_roundw
        case rel => exact ⟨1, by omega, by go_num, HN.out⟩
        case measure => simp [intOf]
      replace hgood : ¬ ce < 0 ∧ ¬ ce ≥ 2 ∧ ¬ b0 < 1 ∧ ¬ b0 > 256 := ⟨hgood.1, hgood.2.1, hgood.2.2, hbad⟩
      clear hbad
      obtain ⟨nb, hnb⟩ : ∃ nb : Nat, b0 = (nb : Int) := ⟨b0.toNat, by omega⟩
      obtain ⟨c, hc⟩ : ∃ c : Nat, ce = (c : Int) := ⟨ce.toNat, by omega⟩
      have HG : Hid (c < 2 ∧ 1 ≤ nb ∧ nb ≤ 256 ∧ ce.toNat = c) := ⟨by omega, by omega, by omega, by omega⟩
      have HX : Hid (∀ _ : Unit, Calls Tryz.prog 39 #[.pointer (some ⟨L.b, 0, none⟩), .int .i64 ce, .int .i64 b0] wr fun e w' => ∃ X : XL, e = .returned (.tuple #[.pointer (some ⟨X.x, 0, none⟩), .int .i64 0]) ∧ (wr.heap.size ≤ X.x ∧ wr.heap.size ≤ X.h) ∧ IxH w' L.b X (freshX c nb) ∧ Below wr.heap.size wr w') := fun _ => by rw [hc, hnb]; exact ix_new L (AS.fresh n 2) wr HO.out.1.ar.h c nb HG.out.1 ⟨HG.out.2.1, HG.out.2.2.1⟩
      have HY : Hid (∀ w2 : World, RAr w2 R cap' qv (List.range n) (AS.fresh n 2) → Calls Tryz.prog 99 #[.pointer (some ⟨R.b, 0, none⟩), .int .i64 ce, .int .i64 b0] w2 fun e w' => ∃ (X : XL) (hc : Nat), e = .returned (.tuple #[.pointer (some ⟨X.x, 0, none⟩), .int .i64 0]) ∧ (w2.heap.size ≤ X.x ∧ w2.heap.size ≤ X.h) ∧ RxH w' R.b X hc (freshX c nb) ∧ Below w2.heap.size w2 w') := fun w2 hr => by rw [hc, hnb]; exact rx_new w2 R cap' qv (List.range n) (AS.fresh n 2) hr c nb HG.out.1 ⟨HG.out.2.1, HG.out.2.2.1⟩
      clear hc hnb hgood
      go_wp2_with fail
      refine (HX.out ()).mono ?_
      rintro e w5 ⟨X, rfl, hX, iX, b5⟩
      have H5 : Hid (OpA w w5 L R cap' qv n ∧ OpB w w5 #[.int .i64 (n : Int), .int .i64 ce, .int .i64 b0, .int .i64 b1, .slice ao ln cap] #[.pointer (some ⟨L.b, 0, none⟩), .pointer none, .pointer none, .pointer (some ⟨R.b, 0, none⟩), .pointer none, .pointer none, .slice none 0 0, .int .i64 hold] ∧ (wr.heap.size ≤ X.x ∧ wr.heap.size ≤ X.h) ∧ IxH w5 L.b X (freshX c nb) ∧ Below wr.heap.size wr w5) := ⟨HO.out.1.later b5, HO.out.2.1.later b5, hX, iX, b5⟩
      clear sC sB u1 u4 uf hX iX b5 HX
      have sC : w5.cell? ⟨w.heap.size, 1, none⟩ = some (.int .i64 ce) := (cell?_heap H5.out.2.1.hs 1).trans rfl
      have sB : w5.cell? ⟨w.heap.size, 2, none⟩ = some (.int .i64 b0) := (cell?_heap H5.out.2.1.hs 2).trans rfl
      have u1 : w5.cell? ⟨w.heap.size + 1, 1, none⟩ = some (.pointer none) := (cell?_heap H5.out.2.1.hw 1).trans rfl
      have u4 : w5.cell? ⟨w.heap.size + 1, 4, none⟩ = some (.pointer none) := (cell?_heap H5.out.2.1.hw 4).trans rfl
      have uf : ∀ j, w5.frozen? ⟨w.heap.size + 1, j, none⟩ = false := fun j => frozen?_heap H5.out.2.1.hw j
      go_wp2_with fail
      refine (HY.out w5 H5.out.1.rr).mono ?_
      rintro e w6 ⟨Y, hcc, rfl, hY, iY, b6⟩
      have H6 : Hid (OpA w w6 L R cap' qv n ∧ OpB w w6 #[.int .i64 (n : Int), .int .i64 ce, .int .i64 b0, .int .i64 b1, .slice ao ln cap] #[.pointer (some ⟨L.b, 0, none⟩), .pointer none, .pointer none, .pointer (some ⟨R.b, 0, none⟩), .pointer none, .pointer none, .slice none 0 0, .int .i64 hold] ∧ MkQ w6 L.b R.b wr.heap.size w6.heap.size c (some ⟨X.x, 0, none⟩) (some ⟨Y.x, 0, none⟩) ∧ Below wr.heap.size wr w6) := ⟨H5.out.1.later b6, H5.out.2.1.later b6, MkQ.made H5.out.2.2.1 H5.out.2.2.2.1 H5.out.2.2.2.2 hY iY b6 HG.out.1, H5.out.2.2.2.2.trans (b6.mono H5.out.2.2.2.2.size)⟩
      clear sC sB u1 u4 uf hY iY b6 HY H5
      have sC : w6.cell? ⟨w.heap.size, 1, none⟩ = some (.int .i64 ce) := (cell?_heap H6.out.2.1.hs 1).trans rfl
      have sB : w6.cell? ⟨w.heap.size, 2, none⟩ = some (.int .i64 b0) := (cell?_heap H6.out.2.1.hs 2).trans rfl
      have u1 : w6.cell? ⟨w.heap.size + 1, 1, none⟩ = some (.pointer none) := (cell?_heap H6.out.2.1.hw 1).trans rfl
      have u4 : w6.cell? ⟨w.heap.size + 1, 4, none⟩ = some (.pointer none) := (cell?_heap H6.out.2.1.hw 4).trans rfl
      have uf : ∀ j, w6.frozen? ⟨w.heap.size + 1, j, none⟩ = false := fun j => frozen?_heap H6.out.2.1.hw j
      have HN : Hid (OpT w ((w6.setCell ⟨w.heap.size + 1, 1, none⟩ (.pointer (some ⟨X.x, 0, none⟩))).setCell ⟨w.heap.size + 1, 4, none⟩ (.pointer (some ⟨Y.x, 0, none⟩))) #[.int .i64 (n : Int), .int .i64 ce, .int .i64 b0, .int .i64 b1, .slice ao ln cap] hold L R cap' qv n ce.toNat c1i.toNat 1) := by
        obtain ⟨a, b, m, k⟩ := H6.out
        obtain ⟨-, -, q1, q2⟩ := HO.out
        have kS : Keeps (fun g => g = w.heap.size + 1) w6 ((w6.setCell ⟨w.heap.size + 1, 1, none⟩ (.pointer (some ⟨X.x, 0, none⟩))).setCell ⟨w.heap.size + 1, 4, none⟩ (.pointer (some ⟨Y.x, 0, none⟩))) := setB.trans setB
        refine ⟨(a.set 1 _).set 4 _, (some ⟨X.x, 0, none⟩), none, (some ⟨Y.x, 0, none⟩), none, wr.heap.size, w6.heap.size, w6.heap.size, (b.set 1 (.pointer (some ⟨X.x, 0, none⟩))).set 4 (.pointer (some ⟨Y.x, 0, none⟩)), q1, q2, k.size, Nat.le_refl _, by simp, fun e => absurd e (by decide), fun _ => ⟨rfl, rfl⟩, fun _ => ?_, fun e => absurd e (by decide)⟩
        rw [HG.out.2.2.2]
        exact m.keeps kS (fun g e => by rw [e]; omega)
      go_wp2_with fail
      refine (law_num _ _).mono ?_
      rintro e wn ⟨rfl, hwn⟩
      rw [hwn]
      clear hwn wn
      go_wp2
      go_roundw
      case rel => exact ⟨1, by omega, by go_num, HN.out⟩
      case measure => simp [intOf]
    · subst e
      obtain ⟨hA, x0, x1, y0, y1, N0, N1, N2, hb, q1, q2, q3, q4, q5, -, z1, m0, -⟩ := hO
      obtain ⟨rfl, rfl⟩ := z1 (by decide)
      have HO : Hid (OpA w wr L R cap' qv n ∧ OpB w wr #[.int .i64 (n : Int), .int .i64 ce, .int .i64 b0, .int .i64 b1, .slice ao ln cap] #[.pointer (some ⟨L.b, 0, none⟩), .pointer x0, .pointer none, .pointer (some ⟨R.b, 0, none⟩), .pointer y0, .pointer none, .slice none 0 0, .int .i64 hold] ∧ ∃ N0 N1, (∀ g, L.has g ∨ raF R qv (.fresh n 2) g → g < N0) ∧ w.heap.size + 2 ≤ N0 ∧ N0 ≤ N1 ∧ N1 ≤ wr.heap.size ∧ MkQ wr L.b R.b N0 N1 ce.toNat x0 y0) := ⟨hA, hb, N0, N1, q1, q2, q3, by omega, m0 (by decide)⟩
      clear hA hb q1 q2 q3 q4 q5 z1 m0
      have sC : wr.cell? ⟨w.heap.size, 1, none⟩ = some (.int .i64 ce) := (cell?_heap HO.out.2.1.hs 1).trans rfl
      have sB : wr.cell? ⟨w.heap.size, 3, none⟩ = some (.int .i64 b1) := (cell?_heap HO.out.2.1.hs 3).trans rfl
      have u1 : wr.cell? ⟨w.heap.size + 1, 2, none⟩ = some (.pointer none) := (cell?_heap HO.out.2.1.hw 2).trans rfl
      have u4 : wr.cell? ⟨w.heap.size + 1, 5, none⟩ = some (.pointer none) := (cell?_heap HO.out.2.1.hw 5).trans rfl
      have uf : ∀ j, wr.frozen? ⟨w.heap.size + 1, j, none⟩ = false := fun j => frozen?_heap HO.out.2.1.hw j
      by_cases hbad : c1i < 0
      · have hgood : True := trivial
        have HX : Hid (∀ _ : Unit, _) := fun _ => ix_new_c0 L (AS.fresh n 2) wr HO.out.1.ar.h c1i b1 hbad
        have HY : Hid (∀ _ : Unit, _) := fun _ => rx_new_c0 wr.drew R cap' qv (List.range n) (AS.fresh n 2) (HO.out.1.later (Below.refl _ _).drew).rr c1i b1 hbad
        go_wp2_with fail
        refine (HX.out ()).mono ?_
        rintro e w5 ⟨rfl, hw5⟩
        rw [hw5]
        clear hw5 w5 HX
        go_wp2_with fail
        refine (HY.out ()).mono ?_
        rintro e w6 ⟨rfl, hw6⟩
        rw [hw6]
        clear hw6 w6 HY
        have H6 : Hid (OpA w wr.drew.drew L R cap' qv n ∧ OpB w wr.drew.drew #[.int .i64 (n : Int), .int .i64 ce, .int .i64 b0, .int .i64 b1, .slice ao ln cap] #[.pointer (some ⟨L.b, 0, none⟩), .pointer x0, .pointer none, .pointer (some ⟨R.b, 0, none⟩), .pointer y0, .pointer none, .slice none 0 0, .int .i64 hold] ∧ MkQ wr.drew.drew L.b R.b wr.heap.size wr.drew.drew.heap.size c1i.toNat none none ∧ Below wr.heap.size wr wr.drew.drew) := ⟨(HO.out.1.later (Below.refl _ _).drew).later (Below.refl _ _).drew, HO.out.2.1.drew.drew, .inl ⟨rfl, rfl⟩, (Below.refl _ _).drew.drew⟩
        clear sC sB u1 u4 uf
        generalize wr.drew.drew = w6 at *
        have sC : w6.cell? ⟨w.heap.size, 1, none⟩ = some (.int .i64 ce) := (cell?_heap H6.out.2.1.hs 1).trans rfl
        have sB : w6.cell? ⟨w.heap.size, 3, none⟩ = some (.int .i64 b1) := (cell?_heap H6.out.2.1.hs 3).trans rfl
        have u1 : w6.cell? ⟨w.heap.size + 1, 2, none⟩ = some (.pointer none) := (cell?_heap H6.out.2.1.hw 2).trans rfl
        have u4 : w6.cell? ⟨w.heap.size + 1, 5, none⟩ = some (.pointer none) := (cell?_heap H6.out.2.1.hw 5).trans rfl
        have uf : ∀ j, w6.frozen? ⟨w.heap.size + 1, j, none⟩ = false := fun j => frozen?_heap H6.out.2.1.hw j
        have HN : Hid (OpT w ((w6.setCell ⟨w.heap.size + 1, 2, none⟩ (.pointer none)).setCell ⟨w.heap.size + 1, 5, none⟩ (.pointer none)) #[.int .i64 (n : Int), .int .i64 ce, .int .i64 b0, .int .i64 b1, .slice ao ln cap] hold L R cap' qv n ce.toNat c1i.toNat 2) := by
          obtain ⟨a, b, m, k⟩ := H6.out
          obtain ⟨-, -, N0, N1, q1, q2, q3, q4, q5⟩ := HO.out
          have kS : Keeps (fun g => g = w.heap.size + 1) w6 ((w6.setCell ⟨w.heap.size + 1, 2, none⟩ (.pointer none)).setCell ⟨w.heap.size + 1, 5, none⟩ (.pointer none)) := setB.trans setB
          refine ⟨(a.set 2 _).set 5 _, x0, none, y0, none, N0, wr.heap.size, w6.heap.size, (b.set 2 (.pointer none)).set 5 (.pointer none), q1, q2, Nat.le_trans q3 q4, k.size, by simp, fun e => absurd e (by decide), fun e => absurd e (by decide), fun _ => ?_, fun _ => ?_⟩
          · refine MkQ.keeps (D := fun g => g = w.heap.size + 1) ?_ kS (fun g e => by rw [e]; omega)
            rcases q5.later k with h | ⟨X, Y, hc, nb, h1, h2, h3, h4, h5, h6, h7⟩
            · exact .inl h
            · exact .inr ⟨X, Y, hc, nb, h1, h2, h3, h4, fun g hg => ⟨(h5 g hg).1, Nat.lt_of_lt_of_le (h5 g hg).2 q4⟩, h6, h7⟩
          · skip
            exact m.keeps kS (fun g e => by rw [e]; omega)
        go_wp2_with fail
        refine (law_num _ _).mono ?_
        rintro e wn ⟨rfl, hwn⟩
        rw [hwn]
        clear hwn wn
        go_wp2
        go_roundw
        case rel => exact ⟨2, by omega, by go_num, HN.out⟩
        case measure => simp [intOf]
      have hgood : ¬ c1i < 0 ∧ True := ⟨hbad, trivial⟩
      clear hbad
      by_cases hbad : c1i ≥ ((AS.fresh n 2).wd : Int)
      · have HX : Hid (∀ _ : Unit, _) := fun _ => ix_new_c1 L (AS.fresh n 2) wr HO.out.1.ar.h c1i b1 hgood.1 hbad
        have HY : Hid (∀ _ : Unit, _) := fun _ => rx_new_c1 wr.drew R cap' qv (List.range n) (AS.fresh n 2) (HO.out.1.later (Below.refl _ _).drew).rr c1i b1 hgood.1 hbad
        go_wp2_with fail
        refine (HX.out ()).mono ?_
        rintro e w5 ⟨rfl, hw5⟩
        rw [hw5]
        clear hw5 w5 HX
        go_wp2_with fail
        refine (HY.out ()).mono ?_
        rintro e w6 ⟨rfl, hw6⟩
        rw [hw6]
        clear hw6 w6 HY
        have H6 : Hid (OpA w wr.drew.drew L R cap' qv n ∧ OpB w wr.drew.drew #[.int .i64 (n : Int), .int .i64 ce, .int .i64 b0, .int .i64 b1, .slice ao ln cap] #[.pointer (some ⟨L.b, 0, none⟩), .pointer x0, .pointer none, .pointer (some ⟨R.b, 0, none⟩), .pointer y0, .pointer none, .slice none 0 0, .int .i64 hold] ∧ MkQ wr.drew.drew L.b R.b wr.heap.size wr.drew.drew.heap.size c1i.toNat none none ∧ Below wr.heap.size wr wr.drew.drew) := ⟨(HO.out.1.later (Below.refl _ _).drew).later (Below.refl _ _).drew, HO.out.2.1.drew.drew, .inl ⟨rfl, rfl⟩, (Below.refl _ _).drew.drew⟩
        clear sC sB u1 u4 uf
        generalize wr.drew.drew = w6 at *
        have sC : w6.cell? ⟨w.heap.size, 1, none⟩ = some (.int .i64 ce) := (cell?_heap H6.out.2.1.hs 1).trans rfl
        have sB : w6.cell? ⟨w.heap.size, 3, none⟩ = some (.int .i64 b1) := (cell?_heap H6.out.2.1.hs 3).trans rfl
        have u1 : w6.cell? ⟨w.heap.size + 1, 2, none⟩ = some (.pointer none) := (cell?_heap H6.out.2.1.hw 2).trans rfl
        have u4 : w6.cell? ⟨w.heap.size + 1, 5, none⟩ = some (.pointer none) := (cell?_heap H6.out.2.1.hw 5).trans rfl
        have uf : ∀ j, w6.frozen? ⟨w.heap.size + 1, j, none⟩ = false := fun j => frozen?_heap H6.out.2.1.hw j
        have HN : Hid (OpT w ((w6.setCell ⟨w.heap.size + 1, 2, none⟩ (.pointer none)).setCell ⟨w.heap.size + 1, 5, none⟩ (.pointer none)) #[.int .i64 (n : Int), .int .i64 ce, .int .i64 b0, .int .i64 b1, .slice ao ln cap] hold L R cap' qv n ce.toNat c1i.toNat 2) := by
          obtain ⟨a, b, m, k⟩ := H6.out
          obtain ⟨-, -, N0, N1, q1, q2, q3, q4, q5⟩ := HO.out
          have kS : Keeps (fun g => g = w.heap.size + 1) w6 ((w6.setCell ⟨w.heap.size + 1, 2, none⟩ (.pointer none)).setCell ⟨w.heap.size + 1, 5, none⟩ (.pointer none)) := setB.trans setB
          refine ⟨(a.set 2 _).set 5 _, x0, none, y0, none, N0, wr.heap.size, w6.heap.size, (b.set 2 (.pointer none)).set 5 (.pointer none), q1, q2, Nat.le_trans q3 q4, k.size, by simp, fun e => absurd e (by decide), fun e => absurd e (by decide), fun _ => ?_, fun _ => ?_⟩
          · refine MkQ.keeps (D := fun g => g = w.heap.size + 1) ?_ kS (fun g e => by rw [e]; omega)
            rcases q5.later k with h | ⟨X, Y, hc, nb, h1, h2, h3, h4, h5, h6, h7⟩
            · exact .inl h
            · exact .inr ⟨X, Y, hc, nb, h1, h2, h3, h4, fun g hg => ⟨(h5 g hg).1, Nat.lt_of_lt_of_le (h5 g hg).2 q4⟩, h6, h7⟩
          · skip
            exact m.keeps kS (fun g e => by rw [e]; omega)
        go_wp2_with fail
        refine (law_num _ _).mono ?_
        rintro e wn ⟨rfl, hwn⟩
        rw [hwn]
        clear hwn wn
        go_wp2
        go_roundw
        case rel => exact ⟨2, by omega, by go_num, HN.out⟩
        case measure => simp [intOf]
      replace hgood : ¬ c1i < 0 ∧ ¬ c1i ≥ ((AS.fresh n 2).wd : Int) := ⟨hgood.1, hbad⟩
      clear hbad
      by_cases hbad : b1 < 1
      · have HX : Hid (∀ _ : Unit, _) := fun _ => ix_new_b0 L (AS.fresh n 2) wr HO.out.1.ar.h c1i b1 hgood.1 hgood.2 hbad
        have HY : Hid (∀ _ : Unit, _) := fun _ => rx_new_b0 wr.drew R cap' qv (List.range n) (AS.fresh n 2) (HO.out.1.later (Below.refl _ _).drew).rr c1i b1 hgood.1 hgood.2 hbad
        go_wp2_with fail
        refine (HX.out ()).mono ?_
        rintro e w5 ⟨rfl, hw5⟩
        rw [hw5]
        clear hw5 w5 HX
        go_wp2_with fail
        refine (HY.out ()).mono ?_
        rintro e w6 ⟨rfl, hw6⟩
        rw [hw6]
        clear hw6 w6 HY
        have H6 : Hid (OpA w wr.drew.drew L R cap' qv n ∧ OpB w wr.drew.drew #[.int .i64 (n : Int), .int .i64 ce, .int .i64 b0, .int .i64 b1, .slice ao ln cap] #[.pointer (some ⟨L.b, 0, none⟩), .pointer x0, .pointer none, .pointer (some ⟨R.b, 0, none⟩), .pointer y0, .pointer none, .slice none 0 0, .int .i64 hold] ∧ MkQ wr.drew.drew L.b R.b wr.heap.size wr.drew.drew.heap.size c1i.toNat none none ∧ Below wr.heap.size wr wr.drew.drew) := ⟨(HO.out.1.later (Below.refl _ _).drew).later (Below.refl _ _).drew, HO.out.2.1.drew.drew, .inl ⟨rfl, rfl⟩, (Below.refl _ _).drew.drew⟩
        clear sC sB u1 u4 uf
        generalize wr.drew.drew = w6 at *
        have sC : w6.cell? ⟨w.heap.size, 1, none⟩ = some (.int .i64 ce) := (cell?_heap H6.out.2.1.hs 1).trans rfl
        have sB : w6.cell? ⟨w.heap.size, 3, none⟩ = some (.int .i64 b1) := (cell?_heap H6.out.2.1.hs 3).trans rfl
        have u1 : w6.cell? ⟨w.heap.size + 1, 2, none⟩ = some (.pointer none) := (cell?_heap H6.out.2.1.hw 2).trans rfl
        have u4 : w6.cell? ⟨w.heap.size + 1, 5, none⟩ = some (.pointer none) := (cell?_heap H6.out.2.1.hw 5).trans rfl
        have uf : ∀ j, w6.frozen? ⟨w.heap.size + 1, j, none⟩ = false := fun j => frozen?_heap H6.out.2.1.hw j
        have HN : Hid (OpT w ((w6.setCell ⟨w.heap.size + 1, 2, none⟩ (.pointer none)).setCell ⟨w.heap.size + 1, 5, none⟩ (.pointer none)) #[.int .i64 (n : Int), .int .i64 ce, .int .i64 b0, .int .i64 b1, .slice ao ln cap] hold L R cap' qv n ce.toNat c1i.toNat 2) := by
          obtain ⟨a, b, m, k⟩ := H6.out
          obtain ⟨-, -, N0, N1, q1, q2, q3, q4, q5⟩ := HO.out
          have kS : Keeps (fun g => g = w.heap.size + 1) w6 ((w6.setCell ⟨w.heap.size + 1, 2, none⟩ (.pointer none)).setCell ⟨w.heap.size + 1, 5, none⟩ (.pointer none)) := setB.trans setB
          refine ⟨(a.set 2 _).set 5 _, x0, none, y0, none, N0, wr.heap.size, w6.heap.size, (b.set 2 (.pointer none)).set 5 (.pointer none), q1, q2, Nat.le_trans q3 q4, k.size, by simp, fun e => absurd e (by decide), fun e => absurd e (by decide), fun _ => ?_, fun _ => ?_⟩
          · refine MkQ.keeps (D := fun g => g = w.heap.size + 1) ?_ kS (fun g e => by rw [e]; omega)
            rcases q5.later k with h | ⟨X, Y, hc, nb, h1, h2, h3, h4, h5, h6, h7⟩
            · exact .inl h
            · exact .inr ⟨X, Y, hc, nb, h1, h2, h3, h4, fun g hg => ⟨(h5 g hg).1, Nat.lt_of_lt_of_le (h5 g hg).2 q4⟩, h6, h7⟩
          · skip
            exact m.keeps kS (fun g e => by rw [e]; omega)
        go_wp2_with fail
        refine (law_num _ _).mono ?_
        rintro e wn ⟨rfl, hwn⟩
        rw [hwn]
        clear hwn wn
        go_wp2
        go_roundw
        case rel => exact ⟨2, by omega, by go_num, HN.out⟩
        case measure => simp [intOf]
      replace hgood : ¬ c1i < 0 ∧ ¬ c1i ≥ ((AS.fresh n 2).wd : Int) ∧ ¬ b1 < 1 := ⟨hgood.1, hgood.2, hbad⟩
      clear hbad
      by_cases hbad : b1 > 256
      · have HX : Hid (∀ _ : Unit, _) := fun _ => ix_new_b1 L (AS.fresh n 2) wr HO.out.1.ar.h c1i b1 hgood.1 hgood.2.1 hgood.2.2 hbad
        have HY : Hid (∀ _ : Unit, _) := fun _ => rx_new_b1 wr.drew R cap' qv (List.range n) (AS.fresh n 2) (HO.out.1.later (Below.refl _ _).drew).rr c1i b1 hgood.1 hgood.2.1 hgood.2.2 hbad
        go_wp2_with fail
        refine (HX.out ()).mono ?_
        rintro e w5 ⟨rfl, hw5⟩
        rw [hw5]
        clear hw5 w5 HX
        go_wp2_with fail
        refine (HY.out ()).mono ?_
        rintro e w6 ⟨rfl, hw6⟩
        rw [hw6]
        clear hw6 w6 HY
        have H6 : Hid (OpA w wr.drew.drew L R cap' qv n ∧ OpB w wr.drew.drew #[.int .i64 (n : Int), .int .i64 ce, .int .i64 b0, .int .i64 b1, .slice ao ln cap] #[.pointer (some ⟨L.b, 0, none⟩), .pointer x0, .pointer none, .pointer (some ⟨R.b, 0, none⟩), .pointer y0, .pointer none, .slice none 0 0, .int .i64 hold] ∧ MkQ wr.drew.drew L.b R.b wr.heap.size wr.drew.drew.heap.size c1i.toNat none none ∧ Below wr.heap.size wr wr.drew.drew) := ⟨(HO.out.1.later (Below.refl _ _).drew).later (Below.refl _ _).drew, HO.out.2.1.drew.drew, .inl ⟨rfl, rfl⟩, (Below.refl _ _).drew.drew⟩
        clear sC sB u1 u4 uf
        generalize wr.drew.drew = w6 at *
        have sC : w6.cell? ⟨w.heap.size, 1, none⟩ = some (.int .i64 ce) := (cell?_heap H6.out.2.1.hs 1).trans rfl
        have sB : w6.cell? ⟨w.heap.size, 3, none⟩ = some (.int .i64 b1) := (cell?_heap H6.out.2.1.hs 3).trans rfl
        have u1 : w6.cell? ⟨w.heap.size + 1, 2, none⟩ = some (.pointer none) := (cell?_heap H6.out.2.1.hw 2).trans rfl
        have u4 : w6.cell? ⟨w.heap.size + 1, 5, none⟩ = some (.pointer none) := (cell?_heap H6.out.2.1.hw 5).trans rfl
        have uf : ∀ j, w6.frozen? ⟨w.heap.size + 1, j, none⟩ = false := fun j => frozen?_heap H6.out.2.1.hw j
        have HN : Hid (OpT w ((w6.setCell ⟨w.heap.size + 1, 2, none⟩ (.pointer none)).setCell ⟨w.heap.size + 1, 5, none⟩ (.pointer none)) #[.int .i64 (n : Int), .int .i64 ce, .int .i64 b0, .int .i64 b1, .slice ao ln cap] hold L R cap' qv n ce.toNat c1i.toNat 2) := by
          obtain ⟨a, b, m, k⟩ := H6.out
          obtain ⟨-, -, N0, N1, q1, q2, q3, q4, q5⟩ := HO.out
          have kS : Keeps (fun g => g = w.heap.size + 1) w6 ((w6.setCell ⟨w.heap.size + 1, 2, none⟩ (.pointer none)).setCell ⟨w.heap.size + 1, 5, none⟩ (.pointer none)) := setB.trans setB
          refine ⟨(a.set 2 _).set 5 _, x0, none, y0, none, N0, wr.heap.size, w6.heap.size, (b.set 2 (.pointer none)).set 5 (.pointer none), q1, q2, Nat.le_trans q3 q4, k.size, by simp, fun e => absurd e (by decide), fun e => absurd e (by decide), fun _ => ?_, fun _ => ?_⟩
          · refine MkQ.keeps (D := fun g => g = w.heap.size + 1) ?_ kS (fun g e => by rw [e]; omega)
            rcases q5.later k with h | ⟨X, Y, hc, nb, h1, h2, h3, h4, h5, h6, h7⟩
            · exact .inl h
            · exact .inr ⟨X, Y, hc, nb, h1, h2, h3, h4, fun g hg => ⟨(h5 g hg).1, Nat.lt_of_lt_of_le (h5 g hg).2 q4⟩, h6, h7⟩
          · skip
            exact m.keeps kS (fun g e => by rw [e]; omega)
        go_wp2_with fail
        refine (law_num _ _).mono ?_
        rintro e wn ⟨rfl, hwn⟩
        rw [hwn]
        clear hwn wn
        go_wp2
        go_roundw
        case rel => exact ⟨2, by omega, by go_num, HN.out⟩
        case measure => simp [intOf]
      replace hgood : ¬ c1i < 0 ∧ ¬ c1i ≥ 2 ∧ ¬ b1 < 1 ∧ ¬ b1 > 256 := ⟨hgood.1, hgood.2.1, hgood.2.2, hbad⟩
      clear hbad
      obtain ⟨nb, hnb⟩ : ∃ nb : Nat, b1 = (nb : Int) := ⟨b1.toNat, by omega⟩
      obtain ⟨c, hc⟩ : ∃ c : Nat, c1i = (c : Int) := ⟨c1i.toNat, by omega⟩
      have HG : Hid (c < 2 ∧ 1 ≤ nb ∧ nb ≤ 256 ∧ c1i.toNat = c) := ⟨by omega, by omega, by omega, by omega⟩
      have HX : Hid (∀ _ : Unit, Calls Tryz.prog 39 #[.pointer (some ⟨L.b, 0, none⟩), .int .i64 c1i, .int .i64 b1] wr fun e w' => ∃ X : XL, e = .returned (.tuple #[.pointer (some ⟨X.x, 0, none⟩), .int .i64 0]) ∧ (wr.heap.size ≤ X.x ∧ wr.heap.size ≤ X.h) ∧ IxH w' L.b X (freshX c nb) ∧ Below wr.heap.size wr w') := fun _ => by rw [hc, hnb]; exact ix_new L (AS.fresh n 2) wr HO.out.1.ar.h c nb HG.out.1 ⟨HG.out.2.1, HG.out.2.2.1⟩
      have HY : Hid (∀ w2 : World, RAr w2 R cap' qv (List.range n) (AS.fresh n 2) → Calls Tryz.prog 99 #[.pointer (some ⟨R.b, 0, none⟩), .int .i64 c1i, .int .i64 b1] w2 fun e w' => ∃ (X : XL) (hc : Nat), e = .returned (.tuple #[.pointer (some ⟨X.x, 0, none⟩), .int .i64 0]) ∧ (w2.heap.size ≤ X.x ∧ w2.heap.size ≤ X.h) ∧ RxH w' R.b X hc (freshX c nb) ∧ Below w2.heap.size w2 w') := fun w2 hr => by rw [hc, hnb]; exact rx_new w2 R cap' qv (List.range n) (AS.fresh n 2) hr c nb HG.out.1 ⟨HG.out.2.1, HG.out.2.2.1⟩
      clear hc hnb hgood
      go_wp2_with fail
      refine (HX.out ()).mono ?_
      rintro e w5 ⟨X, rfl, hX, iX, b5⟩
      have H5 : Hid (OpA w w5 L R cap' qv n ∧ OpB w w5 #[.int .i64 (n : Int), .int .i64 ce, .int .i64 b0, .int .i64 b1, .slice ao ln cap] #[.pointer (some ⟨L.b, 0, none⟩), .pointer x0, .pointer none, .pointer (some ⟨R.b, 0, none⟩), .pointer y0, .pointer none, .slice none 0 0, .int .i64 hold] ∧ (wr.heap.size ≤ X.x ∧ wr.heap.size ≤ X.h) ∧ IxH w5 L.b X (freshX c nb) ∧ Below wr.heap.size wr w5) := ⟨HO.out.1.later b5, HO.out.2.1.later b5, hX, iX, b5⟩
      clear sC sB u1 u4 uf hX iX b5 HX
      have sC : w5.cell? ⟨w.heap.size, 1, none⟩ = some (.int .i64 ce) := (cell?_heap H5.out.2.1.hs 1).trans rfl
      have sB : w5.cell? ⟨w.heap.size, 3, none⟩ = some (.int .i64 b1) := (cell?_heap H5.out.2.1.hs 3).trans rfl
      have u1 : w5.cell? ⟨w.heap.size + 1, 2, none⟩ = some (.pointer none) := (cell?_heap H5.out.2.1.hw 2).trans rfl
      have u4 : w5.cell? ⟨w.heap.size + 1, 5, none⟩ = some (.pointer none) := (cell?_heap H5.out.2.1.hw 5).trans rfl
      have uf : ∀ j, w5.frozen? ⟨w.heap.size + 1, j, none⟩ = false := fun j => frozen?_heap H5.out.2.1.hw j
      go_wp2_with fail
      refine (HY.out w5 H5.out.1.rr).mono ?_
      rintro e w6 ⟨Y, hcc, rfl, hY, iY, b6⟩
      have H6 : Hid (OpA w w6 L R cap' qv n ∧ OpB w w6 #[.int .i64 (n : Int), .int .i64 ce, .int .i64 b0, .int .i64 b1, .slice ao ln cap] #[.pointer (some ⟨L.b, 0, none⟩), .pointer x0, .pointer none, .pointer (some ⟨R.b, 0, none⟩), .pointer y0, .pointer none, .slice none 0 0, .int .i64 hold] ∧ MkQ w6 L.b R.b wr.heap.size w6.heap.size c (some ⟨X.x, 0, none⟩) (some ⟨Y.x, 0, none⟩) ∧ Below wr.heap.size wr w6) := ⟨H5.out.1.later b6, H5.out.2.1.later b6, MkQ.made H5.out.2.2.1 H5.out.2.2.2.1 H5.out.2.2.2.2 hY iY b6 HG.out.1, H5.out.2.2.2.2.trans (b6.mono H5.out.2.2.2.2.size)⟩
      clear sC sB u1 u4 uf hY iY b6 HY H5
      have sC : w6.cell? ⟨w.heap.size, 1, none⟩ = some (.int .i64 ce) := (cell?_heap H6.out.2.1.hs 1).trans rfl
      have sB : w6.cell? ⟨w.heap.size, 3, none⟩ = some (.int .i64 b1) := (cell?_heap H6.out.2.1.hs 3).trans rfl
      have u1 : w6.cell? ⟨w.heap.size + 1, 2, none⟩ = some (.pointer none) := (cell?_heap H6.out.2.1.hw 2).trans rfl
      have u4 : w6.cell? ⟨w.heap.size + 1, 5, none⟩ = some (.pointer none) := (cell?_heap H6.out.2.1.hw 5).trans rfl
      have uf : ∀ j, w6.frozen? ⟨w.heap.size + 1, j, none⟩ = false := fun j => frozen?_heap H6.out.2.1.hw j
      have HN : Hid (OpT w ((w6.setCell ⟨w.heap.size + 1, 2, none⟩ (.pointer (some ⟨X.x, 0, none⟩))).setCell ⟨w.heap.size + 1, 5, none⟩ (.pointer (some ⟨Y.x, 0, none⟩))) #[.int .i64 (n : Int), .int .i64 ce, .int .i64 b0, .int .i64 b1, .slice ao ln cap] hold L R cap' qv n ce.toNat c1i.toNat 2) := by
        obtain ⟨a, b, m, k⟩ := H6.out
        obtain ⟨-, -, N0, N1, q1, q2, q3, q4, q5⟩ := HO.out
        have kS : Keeps (fun g => g = w.heap.size + 1) w6 ((w6.setCell ⟨w.heap.size + 1, 2, none⟩ (.pointer (some ⟨X.x, 0, none⟩))).setCell ⟨w.heap.size + 1, 5, none⟩ (.pointer (some ⟨Y.x, 0, none⟩))) := setB.trans setB
        refine ⟨(a.set 2 _).set 5 _, x0, (some ⟨X.x, 0, none⟩), y0, (some ⟨Y.x, 0, none⟩), N0, wr.heap.size, w6.heap.size, (b.set 2 (.pointer (some ⟨X.x, 0, none⟩))).set 5 (.pointer (some ⟨Y.x, 0, none⟩)), q1, q2, Nat.le_trans q3 q4, k.size, by simp, fun e => absurd e (by decide), fun e => absurd e (by decide), fun _ => ?_, fun _ => ?_⟩
        · refine MkQ.keeps (D := fun g => g = w.heap.size + 1) ?_ kS (fun g e => by rw [e]; omega)
          rcases q5.later k with h | ⟨X, Y, hc, nb, h1, h2, h3, h4, h5, h6, h7⟩
          · exact .inl h
          · exact .inr ⟨X, Y, hc, nb, h1, h2, h3, h4, fun g hg => ⟨(h5 g hg).1, Nat.lt_of_lt_of_le (h5 g hg).2 q4⟩, h6, h7⟩
        · rw [HG.out.2.2.2]
          exact m.keeps kS (fun g e => by rw [e]; omega)
      go_wp2_with fail
      refine (law_num _ _).mono ?_
      rintro e wn ⟨rfl, hwn⟩
      rw [hwn]
      clear hwn wn
      go_wp2
      go_roundw
      case rel => exact ⟨2, by omega, by go_num, HN.out⟩
      case measure => simp [intOf]
    · subst e
      have HO : Hid (OpT w wr #[.int .i64 (n : Int), .int .i64 ce, .int .i64 b0, .int .i64 b1, .slice ao ln cap] hold L R cap' qv n ce.toNat c1i.toNat 2) := hO
      clear hO
      go_wp2
      go_ret2
      exact ⟨w.heap.size + 1, rfl, HO.out.opn hB⟩
end Go.Proofs.YtdjklcmkcccpeaaGreat

namespace Go.Proofs.YtdjklcmkcccpeaaGreat
open Go.ChangeShapes Go.WideShapes Go.ChangeAt Go.RowKit
set_option linter.unusedVariables false
set_option maxRecDepth 100000
theorem list_of {α : Type} {p : Nat → α → Prop} : ∀ n, (∀ i, i < n → ∃ a, p i a) → ∃ xs : List α, xs.length = n ∧ ∀ i (h : i < xs.length), p i xs[i]
  | 0, _ => ⟨[], rfl, fun i h => by simp at h⟩
  | n + 1, h => by
    obtain ⟨xs, hl, hx⟩ := list_of n (fun i hi => h i (by omega))
    obtain ⟨a, ha⟩ := h n (by omega)
    refine ⟨xs ++ [a], by rw [List.length_append, hl]; rfl, fun i hi => ?_⟩
    rw [List.length_append, hl] at hi
    rcases Nat.lt_or_ge i xs.length with h' | h'
    · rw [List.getElem_append_left h']; exact hx i h'
    · have e : i = n := by simp at hi; omega
      subst e
      rw [List.getElem_append_right h']
      simpa [hl] using ha
theorem bulk_app {H : Type} : ∀ (a b : List (DataW H)), Rows.uptoBulkAll (a ++ b) = Rows.uptoBulkAll a + Rows.uptoBulkAll b
  | [], b => by simp [Rows.uptoBulkAll]
  | x :: a, b => by rw [List.cons_append, Rows.uptoBulkAll, Rows.uptoBulkAll, bulk_app a b]; omega
theorem bulk_range {α H : Type} (m : α → Nat) (D : Nat → DataW H) : ∀ xs : List α, (∀ i (h : i < xs.length), m xs[i] ≤ Rows.uptoBulk (D i)) → (xs.map m).sum ≤ Rows.uptoBulkAll ((List.range xs.length).map D) := by
  intro xs
  have key : ∀ n (ys : List α), ys.length = n → (∀ i (h : i < ys.length), m ys[i] ≤ Rows.uptoBulk (D i)) → (ys.map m).sum ≤ Rows.uptoBulkAll ((List.range ys.length).map D) := by
    intro n
    induction n with
    | zero =>
      intro ys hl _
      have : ys = [] := List.eq_nil_of_length_eq_zero hl
      subst this
      simp
    | succ n ih =>
      intro ys hl h
      have hne : ys ≠ [] := fun e => by rw [e] at hl; simp at hl
      have e : ys = ys.dropLast ++ [ys.getLast hne] := (List.dropLast_concat_getLast hne).symm
      have hd : ys.dropLast.length = n := by rw [List.length_dropLast]; omega
      have h1 := ih ys.dropLast hd (fun i hi => by
        have := h i (by rw [hd] at hi; omega)
        rw [List.getElem_dropLast]
        exact this)
      have h2 := h n (by omega)
      have e2 : ys[n]'(by omega) = ys.getLast hne := by rw [List.getLast_eq_getElem]; congr 1; omega
      rw [e2] at h2
      rw [hl, List.range_succ, List.map_append, bulk_app]
      rw [hd] at h1
      rw [e, List.map_append, List.sum_append]
      simp only [List.map_cons, List.map_nil, List.sum_cons, List.sum_nil, Rows.uptoBulkAll]
      omega
  exact key _ xs rfl
/-- A list read, whatever it is a list of. -/
theorem open_list {α H : Type} {enc : TypeId × Value → H} {W : World} (cs : α → List Value) (m : α → Nat) (ok : α → Prop) {t e : TypeId} {n : Nat} (ht : Tryz.prog.underlying t = some (.slice e)) (hc : Tryz.prog.cellsOf e = n) (hn : ∀ y, (cs y).length = n) (h0 : 0 < n)
    (each : ∀ (fuel : Nat) (c : List Value) (y : DataW H × List MemPlace), DataW.trod enc Tryz.prog W 0 (fun _ => true) true fuel e c = some y → ∃ a : α, c = cs a ∧ ok a ∧ m a ≤ Rows.uptoBulk y.1)
    {fuel : Nat} {c : List Value} {x : DataW H × List MemPlace} (hf : DataW.trod enc Tryz.prog W 0 (fun _ => true) true fuel t c = some x) :
    ∃ (v : Value) (xs : List α), c = [v] ∧ InG cs W W.heap.size v xs ∧ (∀ a ∈ xs, ok a) ∧ (xs.map m).sum + 1 ≤ Rows.uptoBulk x.1 := by
  rcases Deep.open_slice ht hf with ⟨hcs, rfl⟩ | ⟨a, len, cap, mm, fl, D, Pl, hcs, _, hl, hm, hmm, rfl, hx⟩
  · refine ⟨_, [], hcs, ⟨none, 0, rfl, by simp, fun _ => rfl, fun j u hj => by simp at hj⟩, (fun a ha => by cases ha), ?_⟩
    show 0 + 1 ≤ Rows.uptoBulk (DataW.nil : DataW H)
    rw [Rows.uptoBulk]
    exact Nat.le_refl _
  · simp only [if_true] at hmm
    subst hmm
    obtain ⟨xs, hxl, hxs⟩ := list_of (p := fun i (y : α) => W.cells? 0 (a.add (i * n)) n = some (cs y) ∧ ok y ∧ m y ≤ Rows.uptoBulk (D i)) len (fun i hi => by
      obtain ⟨c', h1, h2⟩ := hx i (by omega)
      obtain ⟨y, e1, e2, e3⟩ := each _ _ _ h2
      refine ⟨y, ?_, e2, e3⟩
      rw [← e1, ← hc]
      exact h1)
    subst hxl
    have cellAt : ∀ i (hi : i < xs.length) j, j < n → W.cell? ((a.add (i * n)).add j) = (cs xs[i])[j]? := fun i hi j hj => (World.cells?_some (hxs i hi).1).2.2 j hj
    refine ⟨_, xs, hcs, ⟨some a, _, rfl, hl, (fun h => by cases h), fun j u hj => ?_⟩, ?_, ?_⟩
    · have hjl : j < xs.length * n := by
        have := (List.getElem?_eq_some_iff.1 hj).1
        rw [flat_len cs n hn] at this
        exact this
      have hi : j / n < xs.length := by
        rw [Nat.div_lt_iff_lt_mul h0]
        exact hjl
      have hr : j % n < n := Nat.mod_lt _ h0
      have ej : j = j / n * n + j % n := by rw [Nat.mul_comm]; exact (Nat.div_add_mod j n).symm
      have hu : (cs xs[j / n])[j % n]? = some u := by
        rw [← flat_get cs n hn xs (j / n) hi (j % n) hr, ← ej]
        exact hj
      have h1 := (cellAt (j / n) hi (j % n) hr).trans hu
      obtain ⟨b, off, spot⟩ := a
      have hs : spot = none := by
        have hp : 0 < xs.length := Nat.lt_of_le_of_lt (Nat.zero_le _) hi
        have h2 := cellAt 0 hp 0 h0
        rw [List.getElem?_eq_getElem (by rw [hn]; exact h0)] at h2
        have hsp := World.cell?_spot h2
        simpa [Addr.add] using hsp
      subst hs
      rw [addr_add, addr_add, Nat.add_assoc, ← ej] at h1
      refine ⟨b, off, rfl, ?_, h1⟩
      rcases Nat.lt_or_ge b W.heap.size with h | h
      · exact h
      · unfold World.cell? at h1
        simp [Array.getElem?_eq_none h] at h1
    · intro y hy
      obtain ⟨i, hi, rfl⟩ := List.mem_iff_getElem.1 hy
      exact (hxs i hi).2.1
    · have := bulk_range m D xs (fun i hi => (hxs i hi).2.2)
      show (xs.map m).sum + 1 ≤ Rows.uptoBulk (DataW.slice _ _)
      rw [Rows.uptoBulk]
      omega
end Go.Proofs.YtdjklcmkcccpeaaGreat

namespace Go.Proofs.YtdjklcmkcccpeaaGreat
open Go.ChangeShapes Go.WideShapes Go.ChangeAt Go.RowKit
set_option linter.unusedVariables false
set_option maxRecDepth 100000
theorem oCint : Tryz.prog.cellsOf 3 = 1 := by kernel_rfl
theorem oCii : Tryz.prog.cellsOf 75 = 2 := by kernel_rfl
theorem oCop : Tryz.prog.cellsOf 120 = 4 := by kernel_rfl
theorem oClo : Tryz.prog.cellsOf 76 = 1 := by kernel_rfl
theorem oCsc : Tryz.prog.cellsOf 78 = 5 := by kernel_rfl
theorem o_ones {α : Type} (xs : List α) : (xs.map (fun _ => 1)).sum = xs.length := by
  induction xs with
  | nil => rfl
  | cons a r ih => simp only [List.map_cons, List.sum_cons, List.length_cons, ih]; omega
theorem o_one {H : Type} (d : DataW H) : 1 ≤ Rows.uptoBulk d := by
  unfold Rows.uptoBulk
  split <;> omega
theorem o_two {cs : List Value} (h : cs.length = 2) : ∃ c0 c1, cs = [c0, c1] := by
  match cs, h with
  | [c0, c1], _ => exact ⟨c0, c1, rfl⟩
theorem o_four {cs : List Value} (h : cs.length = 4) : ∃ c0 c1 c2 c3, cs = [c0, c1, c2, c3] := by
  match cs, h with
  | [c0, c1, c2, c3], _ => exact ⟨c0, c1, c2, c3, rfl⟩
theorem o_five {cs : List Value} (h : cs.length = 5) : ∃ c0 c1 c2 c3 c4, cs = [c0, c1, c2, c3, c4] := by
  match cs, h with
  | [c0, c1, c2, c3, c4], _ => exact ⟨c0, c1, c2, c3, c4, rfl⟩
theorem o_some {A : Type} {xs : List A} {i n : Nat} (h : xs.length = n) (hi : i < n) : ∃ y, xs[i]? = some y := ⟨xs[i]'(by omega), List.getElem?_eq_getElem (by omega)⟩
theorem o_fourOf {A : Type} {xs : List A} {y0 y1 y2 y3 : A} (h : xs.length = 4) (h0 : xs[0]? = some y0) (h1 : xs[1]? = some y1) (h2 : xs[2]? = some y2) (h3 : xs[3]? = some y3) : xs = [y0, y1, y2, y3] := by
  match xs, h with
  | [a, b, c, d], _ => simp at h0 h1 h2 h3; rw [h0, h1, h2, h3]
/-- A step of a script. -/
structure O4 where
  k : Int
  f : Int
  a : Int
  b : Int
def opC (o : O4) : List Value := [.int .i64 o.k, .int .i64 o.f, .int .i64 o.a, .int .i64 o.b]
def i64ok (x : Int) : Prop := -9223372036854775808 ≤ x ∧ x ≤ 9223372036854775807
def O4.ok (o : O4) : Prop := i64ok o.k ∧ i64ok o.f ∧ i64ok o.a ∧ i64ok o.b
section
variable {H : Type} {enc : TypeId × Value → H} {W : World}
theorem o_i64 {fuel : Nat} {c : List Value} {y : DataW H × List MemPlace} (h : DataW.trod enc Tryz.prog W 0 (fun _ => true) true fuel 3 c = some y) : ∃ a : Int, c = [.int .i64 a] ∧ i64ok a := by
  obtain ⟨s, e1, rfl, hw⟩ := DataW.trod_int (k := .i64) (by kernel_rfl) h
  exact ⟨s, e1, (bounds_i64 hw).1, by have := (bounds_i64 hw).2; omega⟩
theorem o_op (fuel : Nat) (c : List Value) (y : DataW H × List MemPlace) (h : DataW.trod enc Tryz.prog W 0 (fun _ => true) true fuel 120 c = some y) : ∃ a : O4, c = opC a ∧ a.ok ∧ 1 ≤ Rows.uptoBulk y.1 := by
  obtain ⟨xs, m, _, rfl, hl, hlen, hf⟩ := DataW.trod_struct Tryz.underlying120 h
  rw [oCop] at hl
  obtain ⟨c0, c1, c2, c3, rfl⟩ := o_four hl
  have hlen4 : xs.length = 4 := hlen
  obtain ⟨y0, e0⟩ := o_some (i := 0) hlen4 (by omega)
  obtain ⟨y1, e1⟩ := o_some (i := 1) hlen4 (by omega)
  obtain ⟨y2, e2⟩ := o_some (i := 2) hlen4 (by omega)
  obtain ⟨y3, e3⟩ := o_some (i := 3) hlen4 (by omega)
  have f0 := (hf 0 _ rfl).trans e0
  have f1 := (hf 1 _ rfl).trans e1
  have f2 := (hf 2 _ rfl).trans e2
  have f3 := (hf 3 _ rfl).trans e3
  obtain ⟨a0, q0, w0⟩ := o_i64 f0
  obtain ⟨a1, q1, w1⟩ := o_i64 f1
  obtain ⟨a2, q2, w2⟩ := o_i64 f2
  obtain ⟨a3, q3, w3⟩ := o_i64 f3
  change List.take (Tryz.prog.cellsOf 3) (List.drop 0 [c0, c1, c2, c3]) = _ at q0
  change List.take (Tryz.prog.cellsOf 3) (List.drop 1 [c0, c1, c2, c3]) = _ at q1
  change List.take (Tryz.prog.cellsOf 3) (List.drop 2 [c0, c1, c2, c3]) = _ at q2
  change List.take (Tryz.prog.cellsOf 3) (List.drop 3 [c0, c1, c2, c3]) = _ at q3
  rw [oCint] at q0 q1 q2 q3
  simp at q0 q1 q2 q3
  subst q0 q1 q2 q3
  exact ⟨⟨a0, a1, a2, a3⟩, rfl, ⟨w0, w1, w2, w3⟩, o_one _⟩
theorem o_ii {fuel : Nat} {c : List Value} {y : DataW H × List MemPlace} (h : DataW.trod enc Tryz.prog W 0 (fun _ => true) true fuel 75 c = some y) : ∃ a b : Int, c = [.int .i64 a, .int .i64 b] ∧ i64ok a ∧ i64ok b := by
  obtain ⟨xs, m, _, rfl, hl, hlen, hf⟩ := DataW.trod_array Tryz.underlying75 h
  rw [oCii] at hl
  obtain ⟨c0, c1, rfl⟩ := o_two hl
  obtain ⟨y0, e0⟩ := o_some (i := 0) hlen (by omega)
  obtain ⟨y1, e1⟩ := o_some (i := 1) hlen (by omega)
  have f0 := (hf 0 (by omega)).trans e0
  have f1 := (hf 1 (by omega)).trans e1
  obtain ⟨a0, q0, w0⟩ := o_i64 f0
  obtain ⟨a1, q1, w1⟩ := o_i64 f1
  rw [oCint] at q0 q1
  simp at q0 q1
  subst q0 q1
  exact ⟨a0, a1, rfl, w0, w1⟩
/-- A script read. -/
theorem open_sc {fuel : Nat} {c : List Value} {x : DataW H × List MemPlace} (h : DataW.trod enc Tryz.prog W 0 (fun _ => true) true fuel 78 c = some x) (hb : Rows.uptoBulk x.1 ≤ 1048576) :
    ∃ (sl ce b0 b1 : Int) (ao : Option Addr) (cap : Nat) (os : List O4), c = [.int .i64 sl, .int .i64 ce, .int .i64 b0, .int .i64 b1, .slice ao os.length cap] ∧ InG opC W W.heap.size (.slice ao os.length cap) os ∧ os.length ≤ 1048576 ∧ (∀ o ∈ os, o.ok) ∧ i64ok sl ∧ i64ok ce ∧ i64ok b0 ∧ i64ok b1 := by
  obtain ⟨xs, m, _, rfl, hl, hlen, hf⟩ := DataW.trod_struct Tryz.underlying78 h
  rw [oCsc] at hl
  obtain ⟨c0, c1, c2, c3, c4, rfl⟩ := o_five hl
  have hlen4 : xs.length = 4 := hlen
  obtain ⟨y0, e0⟩ := o_some (i := 0) hlen4 (by omega)
  obtain ⟨y1, e1⟩ := o_some (i := 1) hlen4 (by omega)
  obtain ⟨y2, e2⟩ := o_some (i := 2) hlen4 (by omega)
  obtain ⟨y3, e3⟩ := o_some (i := 3) hlen4 (by omega)
  have f0 := (hf 0 _ rfl).trans e0
  have f1 := (hf 1 _ rfl).trans e1
  have f2 := (hf 2 _ rfl).trans e2
  have f3 := (hf 3 _ rfl).trans e3
  obtain ⟨a0, q0, w0⟩ := o_i64 f0
  obtain ⟨a1, q1, w1⟩ := o_i64 f1
  obtain ⟨a2, a3, q2, w2, w3⟩ := o_ii f2
  obtain ⟨v, os, q3, i3, k3, b3⟩ := open_list (W := W) opC (fun _ => 1) O4.ok Tryz.underlying76 oCop (fun _ => rfl) (by omega) (fun f c y h => o_op f c y h) f3
  change List.take (Tryz.prog.cellsOf 3) (List.drop 0 [c0, c1, c2, c3, c4]) = _ at q0
  change List.take (Tryz.prog.cellsOf 3) (List.drop 1 [c0, c1, c2, c3, c4]) = _ at q1
  change List.take (Tryz.prog.cellsOf 75) (List.drop 2 [c0, c1, c2, c3, c4]) = _ at q2
  change List.take (Tryz.prog.cellsOf 76) (List.drop 4 [c0, c1, c2, c3, c4]) = _ at q3
  rw [oCint] at q0 q1
  rw [oCii] at q2
  rw [oClo] at q3
  simp at q0 q1 q2 q3
  obtain ⟨g2, g3⟩ := q2
  subst q0 q1 g2 g3 q3
  obtain ⟨ao, cap, ec⟩ := i3.form
  subst ec
  rw [o_ones] at b3
  have hb2 : Rows.uptoBulk y3.1 ≤ 1048576 := by
    rw [o_fourOf hlen4 e0 e1 e2 e3] at hb
    simp only [List.map_cons, List.map_nil, Rows.uptoBulk, Rows.uptoBulkAll] at hb
    omega
  exact ⟨a0, a1, a2, a3, ao, cap, os, rfl, i3, by omega, k3, w0, w1, w2, w3⟩
end
end Go.Proofs.YtdjklcmkcccpeaaGreat

namespace Go.Proofs.YtdjklcmkcccpeaaGreat
open Go.ChangeShapes Go.WideShapes Go.ChangeAt Go.RowKit Go.MuLone Go.RwLone
set_option linter.unusedVariables false
set_option maxRecDepth 100000
set_option maxHeartbeats 6400000
theorem law_open (w : World) (B : Nat) (sl ce b0 b1 : Int) (ao : Option Addr) (ln cap : Nat) (hold : Int) (hB : B ≤ w.heap.size) : Calls Tryz.prog 57 #[.agg #[.int .i64 sl, .int .i64 ce, .int .i64 b0, .int .i64 b1, .slice ao ln cap], .int .i64 hold] w fun e w' => ∃ wb, e = .returned (.tuple #[.pointer (some ⟨wb, 0, none⟩), .bool true]) ∧ OpnQ w B wb hold w' := by
  by_cases h : 1 ≤ sl ∧ sl ≤ 4096
  · exact law_openC w B sl ce b0 b1 ao ln cap hold hB sl.toNat (by omega) (by omega) _ rfl
  · exact law_openA w B sl ce b0 b1 ao ln cap hold hB h
theorem law_runs (w : World) (sl ce b0 b1 : Int) (ao : Option Addr) (cap : Nat) (hold : Int) (os : List O4) (hin : InG opC w w.heap.size (.slice ao os.length cap) os) (hl : os.length ≤ 1048576) : Calls Tryz.prog 37 #[.agg #[.int .i64 sl, .int .i64 ce, .int .i64 b0, .int .i64 b1, .slice ao os.length cap], .int .i64 hold] w fun e w' => e = .returned (.bool true) ∧ Below w.heap.size w w' := by
  have g1 := heap_alloc_new w (.cells #[.int .i64 sl, .int .i64 ce, .int .i64 b0, .int .i64 b1, .slice ao os.length cap] 78)
  obtain ⟨W1, hW1⟩ : ∃ W, w.alloc (.cells #[.int .i64 sl, .int .i64 ce, .int .i64 b0, .int .i64 b1, .slice ao os.length cap] 78) = W := ⟨_, rfl⟩
  rw [hW1] at g1
  have hb1 : Below w.heap.size w W1 := by rw [← hW1]; exact (Below.refl _ _).alloc (Nat.le_refl _) _
  have hsz : W1.heap.size = w.heap.size + 1 := by rw [← hW1]; simp
  have H1 : Hid (Below w.heap.size w W1 ∧ W1.heap[w.heap.size]? = some (.cells #[.int .i64 sl, .int .i64 ce, .int .i64 b0, .int .i64 b1, .slice ao os.length cap] 78) ∧ InG opC W1 w.heap.size (.slice ao os.length cap) os ∧ W1.heap.size = w.heap.size + 1) := ⟨hb1, g1, hin.later hb1, hsz⟩
  have o0 : W1.cell? ⟨w.heap.size, 0, none⟩ = some (.int .i64 sl) := (cell?_heap g1 0).trans rfl
  have o1 : W1.cell? ⟨w.heap.size, 0 + 1, none⟩ = some (.int .i64 ce) := (cell?_heap g1 1).trans rfl
  have o2 : W1.cell? ⟨w.heap.size, 0 + 1 + 1, none⟩ = some (.int .i64 b0) := (cell?_heap g1 2).trans rfl
  have o3 : W1.cell? ⟨w.heap.size, 0 + 1 + 1 + 1, none⟩ = some (.int .i64 b1) := (cell?_heap g1 3).trans rfl
  have o4 : W1.cell? ⟨w.heap.size, 0 + 1 + 1 + 1 + 1, none⟩ = some (.slice ao os.length cap) := (cell?_heap g1 4).trans rfl
  have HA : Hid (∀ _ : Unit, _) := fun _ => law_open W1 W1.heap.size sl ce b0 b1 ao os.length cap hold (Nat.le_refl _)
  clear hin g1 hb1 hsz
  go_enter Tryz.func37, Tryz.ntmps37
  go_wp2_with fail
  clear hW1
  refine (HA.out ()).mono ?_
  rintro e w2 ⟨wb, rfl, hq, hb2⟩
  have HB : Hid (Below w.heap.size w w2 ∧ Below W1.heap.size W1 w2) := ⟨H1.out.1.trans (hb2.mono H1.out.1.size), hb2⟩
  clear HA o0 o1 o2 o3 o4
  rcases hq with ⟨a, x, y, c3, c4, c5, hno⟩ | ⟨l, qv, av, s, hS, hs0⟩
  · have HW : Hid (∀ _ : Unit, _) := fun _ => law_whole_no w2 wb a x y c3 c4 c5 hno
    clear c3 c4 c5 hno hb2
    go_wp2_with fail
    refine (HW.out ()).mono ?_
    rintro e w3 ⟨rfl, hw3⟩
    rw [hw3]
    clear hw3 w3 HW
    go_wp2
    go_ret
    exact ⟨rfl, HB.out.1⟩
  · have HW : Hid (∀ _ : Unit, _) := fun _ => law_whole w2 wb _ _ _ hS.c3 (hS.c4 0 (by decide)) (hS.c4 1 (by decide))
    have HP : Hid (PlayQ W1 W1.heap.size wb hold 0 w2) := ⟨l, qv, av, s, hS, by omega, hb2⟩
    clear hS hs0 hb2
    go_wp2_with fail
    refine (HW.out ()).mono ?_
    rintro e w3 ⟨rfl, hw3⟩
    rw [hw3]
    clear hw3 w3 HW
    go_wp2_with fail
    go_loopw [7] (fun kv wr => ∃ k : Nat, k ≤ os.length ∧ kv = .int .i64 (k : Int) ∧ PlayQ W1 W1.heap.size wb hold k wr) (fun kv _ => os.length - (intOf kv).toNat)
    case atStart => exact ⟨0, by omega, rfl, HP.out⟩
    case round =>
      clear HP HB
      obtain ⟨k, hk, rfl, l, qv, av, s, hS, hn, hb⟩ := hrel
      have HS : Hid (St4 wr W1.heap.size wb hold l qv av s ∧ Below W1.heap.size W1 wr) := ⟨hS, hb⟩
      have s4 : wr.cell? ⟨w.heap.size, 4, none⟩ = some (.slice ao os.length cap) := (hb.cell (p := ⟨w.heap.size, 4, none⟩) (by have := H1.out.2.2.2; show w.heap.size < W1.heap.size; omega)).trans ((cell?_heap H1.out.2.1 4).trans rfl)
      clear hS hb
      by_cases h5 : k < os.length
      · have k0 : (0 : Int) ≤ (k : Int) := Int.natCast_nonneg _
        have k1 : (k : Int) < (os.length : Int) := by omega
        obtain ⟨g, off, rfl, hg, hc⟩ := InG.cell (cs := opC) (n := 4) (fun _ => rfl) H1.out.2.2.1 k h5 (by decide)
        have hcw : ∀ j, j < 4 → wr.cell? ⟨g, off + k * 4 + j, none⟩ = (opC os[k])[j]? := fun j hj => (HS.out.2.cell (p := ⟨g, off + k * 4 + j, none⟩) (by have := H1.out.2.2.2; show g < W1.heap.size; omega)).trans (hc j hj)
        obtain ⟨⟨kd, of_, oa, ob⟩, ho⟩ : ∃ o, os[k] = o := ⟨_, rfl⟩
        rw [ho] at hcw
        have p0 : wr.cell? ⟨g, off + k * 4, none⟩ = some (.int .i64 kd) := hcw 0 (by decide)
        have p1 : wr.cell? ⟨g, off + k * 4 + 1, none⟩ = some (.int .i64 of_) := hcw 1 (by decide)
        have p2 : wr.cell? ⟨g, off + k * 4 + 2, none⟩ = some (.int .i64 oa) := hcw 2 (by decide)
        have p3 : wr.cell? ⟨g, off + k * 4 + 3, none⟩ = some (.int .i64 ob) := hcw 3 (by decide)
        have HL : Hid (∀ _ : Unit, _) := fun _ => law_play wr W1.heap.size wb hold l qv av s kd of_ oa ob k HS.out.1 hn HS.out.2.size (by omega)
        clear hcw hc ho
        go_wp2_with fail
        refine (HL.out ()).mono ?_
        rintro e w4 ⟨rfl, hq⟩
        have HN : Hid (PlayQ W1 W1.heap.size wb hold (k + 1) w4) := hq.from HS.out.2
        clear hq HL HS s4 p0 p1 p2 p3
        go_wp2
        go_roundw
        case rel => exact ⟨k + 1, by omega, by go_num, HN.out⟩
        case measure => simp [intOf]; omega
      · have k1 : ¬ (k : Int) < (os.length : Int) := by omega
        have HL : Hid (∀ _ : Unit, _) := fun _ => law_last wr W1.heap.size wb hold l qv av s HS.out.1 HS.out.2.size (by omega)
        go_wp2_with fail
        refine (HL.out ()).mono ?_
        rintro e w4 ⟨rfl, hb4⟩
        have HF : Hid (Below w.heap.size w w4) := (H1.out.1.trans (HS.out.2.mono H1.out.1.size)).trans (hb4.mono H1.out.1.size)
        clear hb4 HL HS s4
        go_wp2
        go_ret
        exact ⟨rfl, HF.out⟩
theorem chainInserts_walk (w : World) (sl ce b0 b1 : Int) (ao : Option Addr) (cap : Nat) (os : List O4) (hin : InG opC w w.heap.size (.slice ao os.length cap) os) (hl : os.length ≤ 1048576) : Calls Tryz.prog 9 #[.agg #[.int .i64 sl, .int .i64 ce, .int .i64 b0, .int .i64 b1, .slice ao os.length cap]] w fun e w' => e = .returned (.bool true) ∧ Below w.heap.size w w' := by
  have g1 := heap_alloc_new w (.cells #[.int .i64 sl, .int .i64 ce, .int .i64 b0, .int .i64 b1, .slice ao os.length cap] 78)
  obtain ⟨W1, hW1⟩ : ∃ W, w.alloc (.cells #[.int .i64 sl, .int .i64 ce, .int .i64 b0, .int .i64 b1, .slice ao os.length cap] 78) = W := ⟨_, rfl⟩
  rw [hW1] at g1
  have hb1 : Below w.heap.size w W1 := by rw [← hW1]; exact (Below.refl _ _).alloc (Nat.le_refl _) _
  have H1 : Hid (Below w.heap.size w W1) := hb1
  have o0 : W1.cell? ⟨w.heap.size, 0, none⟩ = some (.int .i64 sl) := (cell?_heap g1 0).trans rfl
  have o1 : W1.cell? ⟨w.heap.size, 0 + 1, none⟩ = some (.int .i64 ce) := (cell?_heap g1 1).trans rfl
  have o2 : W1.cell? ⟨w.heap.size, 0 + 1 + 1, none⟩ = some (.int .i64 b0) := (cell?_heap g1 2).trans rfl
  have o3 : W1.cell? ⟨w.heap.size, 0 + 1 + 1 + 1, none⟩ = some (.int .i64 b1) := (cell?_heap g1 3).trans rfl
  have o4 : W1.cell? ⟨w.heap.size, 0 + 1 + 1 + 1 + 1, none⟩ = some (.slice ao os.length cap) := (cell?_heap g1 4).trans rfl
  have HA : Hid (∀ _ : Unit, _) := fun _ => law_runs W1 sl ce b0 b1 ao cap 1 os ((hin.later hb1).up hb1.size) hl
  clear hin g1 hb1
  go_enter Tryz.func9, Tryz.ntmps9
  go_wp2_with fail
  clear hW1
  refine (HA.out ()).mono ?_
  rintro e w2 ⟨rfl, hb⟩
  have HF : Hid (Below w.heap.size w w2) := H1.out.trans (hb.mono H1.out.size)
  clear HA hb o0 o1 o2 o3 o4
  go_wp2
  go_ret
  exact ⟨rfl, HF.out⟩
section
variable {H : Type} {enc : TypeId × Value → H} {W : World}
theorem chainInserts_open {f0 : Nat} {c0 : Array Value} {x0 : DataW H × List MemPlace} (h0 : DataW.trod enc Tryz.prog W 0 (fun _ => true) true f0 78 c0.toList = some x0) (b0 : Rows.uptoBulk x0.1 ≤ 1048576) :
    Calls Tryz.prog 9 #[.agg c0] W fun e w' => e = .returned (.bool true) ∧ Below W.heap.size W w' := by
  obtain ⟨sl, ce, k0, k1, ao, cap, os, e0, g0, l0, -⟩ := open_sc h0 b0
  obtain rfl : c0 = #[.int .i64 sl, .int .i64 ce, .int .i64 k0, .int .i64 k1, .slice ao os.length cap] := by cases c0; simp_all
  exact chainInserts_walk W sl ce k0 k1 ao cap os g0 l0
end
theorem chainWalks_walk (w : World) (sl ce b0 b1 : Int) (ao : Option Addr) (cap : Nat) (os : List O4) (hin : InG opC w w.heap.size (.slice ao os.length cap) os) (hl : os.length ≤ 1048576) : Calls Tryz.prog 10 #[.agg #[.int .i64 sl, .int .i64 ce, .int .i64 b0, .int .i64 b1, .slice ao os.length cap]] w fun e w' => e = .returned (.bool true) ∧ Below w.heap.size w w' := by
  have g1 := heap_alloc_new w (.cells #[.int .i64 sl, .int .i64 ce, .int .i64 b0, .int .i64 b1, .slice ao os.length cap] 78)
  obtain ⟨W1, hW1⟩ : ∃ W, w.alloc (.cells #[.int .i64 sl, .int .i64 ce, .int .i64 b0, .int .i64 b1, .slice ao os.length cap] 78) = W := ⟨_, rfl⟩
  rw [hW1] at g1
  have hb1 : Below w.heap.size w W1 := by rw [← hW1]; exact (Below.refl _ _).alloc (Nat.le_refl _) _
  have H1 : Hid (Below w.heap.size w W1) := hb1
  have o0 : W1.cell? ⟨w.heap.size, 0, none⟩ = some (.int .i64 sl) := (cell?_heap g1 0).trans rfl
  have o1 : W1.cell? ⟨w.heap.size, 0 + 1, none⟩ = some (.int .i64 ce) := (cell?_heap g1 1).trans rfl
  have o2 : W1.cell? ⟨w.heap.size, 0 + 1 + 1, none⟩ = some (.int .i64 b0) := (cell?_heap g1 2).trans rfl
  have o3 : W1.cell? ⟨w.heap.size, 0 + 1 + 1 + 1, none⟩ = some (.int .i64 b1) := (cell?_heap g1 3).trans rfl
  have o4 : W1.cell? ⟨w.heap.size, 0 + 1 + 1 + 1 + 1, none⟩ = some (.slice ao os.length cap) := (cell?_heap g1 4).trans rfl
  have HA : Hid (∀ _ : Unit, _) := fun _ => law_runs W1 sl ce b0 b1 ao cap 2 os ((hin.later hb1).up hb1.size) hl
  clear hin g1 hb1
  go_enter Tryz.func10, Tryz.ntmps10
  go_wp2_with fail
  clear hW1
  refine (HA.out ()).mono ?_
  rintro e w2 ⟨rfl, hb⟩
  have HF : Hid (Below w.heap.size w w2) := H1.out.trans (hb.mono H1.out.size)
  clear HA hb o0 o1 o2 o3 o4
  go_wp2
  go_ret
  exact ⟨rfl, HF.out⟩
section
variable {H : Type} {enc : TypeId × Value → H} {W : World}
theorem chainWalks_open {f0 : Nat} {c0 : Array Value} {x0 : DataW H × List MemPlace} (h0 : DataW.trod enc Tryz.prog W 0 (fun _ => true) true f0 78 c0.toList = some x0) (b0 : Rows.uptoBulk x0.1 ≤ 1048576) :
    Calls Tryz.prog 10 #[.agg c0] W fun e w' => e = .returned (.bool true) ∧ Below W.heap.size W w' := by
  obtain ⟨sl, ce, k0, k1, ao, cap, os, e0, g0, l0, -⟩ := open_sc h0 b0
  obtain rfl : c0 = #[.int .i64 sl, .int .i64 ce, .int .i64 k0, .int .i64 k1, .slice ao os.length cap] := by cases c0; simp_all
  exact chainWalks_walk W sl ce k0 k1 ao cap os g0 l0
end
theorem chainRemoves_walk (w : World) (sl ce b0 b1 : Int) (ao : Option Addr) (cap : Nat) (os : List O4) (hin : InG opC w w.heap.size (.slice ao os.length cap) os) (hl : os.length ≤ 1048576) : Calls Tryz.prog 11 #[.agg #[.int .i64 sl, .int .i64 ce, .int .i64 b0, .int .i64 b1, .slice ao os.length cap]] w fun e w' => e = .returned (.bool true) ∧ Below w.heap.size w w' := by
  have g1 := heap_alloc_new w (.cells #[.int .i64 sl, .int .i64 ce, .int .i64 b0, .int .i64 b1, .slice ao os.length cap] 78)
  obtain ⟨W1, hW1⟩ : ∃ W, w.alloc (.cells #[.int .i64 sl, .int .i64 ce, .int .i64 b0, .int .i64 b1, .slice ao os.length cap] 78) = W := ⟨_, rfl⟩
  rw [hW1] at g1
  have hb1 : Below w.heap.size w W1 := by rw [← hW1]; exact (Below.refl _ _).alloc (Nat.le_refl _) _
  have H1 : Hid (Below w.heap.size w W1) := hb1
  have o0 : W1.cell? ⟨w.heap.size, 0, none⟩ = some (.int .i64 sl) := (cell?_heap g1 0).trans rfl
  have o1 : W1.cell? ⟨w.heap.size, 0 + 1, none⟩ = some (.int .i64 ce) := (cell?_heap g1 1).trans rfl
  have o2 : W1.cell? ⟨w.heap.size, 0 + 1 + 1, none⟩ = some (.int .i64 b0) := (cell?_heap g1 2).trans rfl
  have o3 : W1.cell? ⟨w.heap.size, 0 + 1 + 1 + 1, none⟩ = some (.int .i64 b1) := (cell?_heap g1 3).trans rfl
  have o4 : W1.cell? ⟨w.heap.size, 0 + 1 + 1 + 1 + 1, none⟩ = some (.slice ao os.length cap) := (cell?_heap g1 4).trans rfl
  have HA : Hid (∀ _ : Unit, _) := fun _ => law_runs W1 sl ce b0 b1 ao cap 4 os ((hin.later hb1).up hb1.size) hl
  clear hin g1 hb1
  go_enter Tryz.func11, Tryz.ntmps11
  go_wp2_with fail
  clear hW1
  refine (HA.out ()).mono ?_
  rintro e w2 ⟨rfl, hb⟩
  have HF : Hid (Below w.heap.size w w2) := H1.out.trans (hb.mono H1.out.size)
  clear HA hb o0 o1 o2 o3 o4
  go_wp2
  go_ret
  exact ⟨rfl, HF.out⟩
section
variable {H : Type} {enc : TypeId × Value → H} {W : World}
theorem chainRemoves_open {f0 : Nat} {c0 : Array Value} {x0 : DataW H × List MemPlace} (h0 : DataW.trod enc Tryz.prog W 0 (fun _ => true) true f0 78 c0.toList = some x0) (b0 : Rows.uptoBulk x0.1 ≤ 1048576) :
    Calls Tryz.prog 11 #[.agg c0] W fun e w' => e = .returned (.bool true) ∧ Below W.heap.size W w' := by
  obtain ⟨sl, ce, k0, k1, ao, cap, os, e0, g0, l0, -⟩ := open_sc h0 b0
  obtain rfl : c0 = #[.int .i64 sl, .int .i64 ce, .int .i64 k0, .int .i64 k1, .slice ao os.length cap] := by cases c0; simp_all
  exact chainRemoves_walk W sl ce k0 k1 ao cap os g0 l0
end
theorem chainLooks_walk (w : World) (sl ce b0 b1 : Int) (ao : Option Addr) (cap : Nat) (os : List O4) (hin : InG opC w w.heap.size (.slice ao os.length cap) os) (hl : os.length ≤ 1048576) : Calls Tryz.prog 12 #[.agg #[.int .i64 sl, .int .i64 ce, .int .i64 b0, .int .i64 b1, .slice ao os.length cap]] w fun e w' => e = .returned (.bool true) ∧ Below w.heap.size w w' := by
  have g1 := heap_alloc_new w (.cells #[.int .i64 sl, .int .i64 ce, .int .i64 b0, .int .i64 b1, .slice ao os.length cap] 78)
  obtain ⟨W1, hW1⟩ : ∃ W, w.alloc (.cells #[.int .i64 sl, .int .i64 ce, .int .i64 b0, .int .i64 b1, .slice ao os.length cap] 78) = W := ⟨_, rfl⟩
  rw [hW1] at g1
  have hb1 : Below w.heap.size w W1 := by rw [← hW1]; exact (Below.refl _ _).alloc (Nat.le_refl _) _
  have H1 : Hid (Below w.heap.size w W1) := hb1
  have o0 : W1.cell? ⟨w.heap.size, 0, none⟩ = some (.int .i64 sl) := (cell?_heap g1 0).trans rfl
  have o1 : W1.cell? ⟨w.heap.size, 0 + 1, none⟩ = some (.int .i64 ce) := (cell?_heap g1 1).trans rfl
  have o2 : W1.cell? ⟨w.heap.size, 0 + 1 + 1, none⟩ = some (.int .i64 b0) := (cell?_heap g1 2).trans rfl
  have o3 : W1.cell? ⟨w.heap.size, 0 + 1 + 1 + 1, none⟩ = some (.int .i64 b1) := (cell?_heap g1 3).trans rfl
  have o4 : W1.cell? ⟨w.heap.size, 0 + 1 + 1 + 1 + 1, none⟩ = some (.slice ao os.length cap) := (cell?_heap g1 4).trans rfl
  have HA : Hid (∀ _ : Unit, _) := fun _ => law_runs W1 sl ce b0 b1 ao cap 8 os ((hin.later hb1).up hb1.size) hl
  clear hin g1 hb1
  go_enter Tryz.func12, Tryz.ntmps12
  go_wp2_with fail
  clear hW1
  refine (HA.out ()).mono ?_
  rintro e w2 ⟨rfl, hb⟩
  have HF : Hid (Below w.heap.size w w2) := H1.out.trans (hb.mono H1.out.size)
  clear HA hb o0 o1 o2 o3 o4
  go_wp2
  go_ret
  exact ⟨rfl, HF.out⟩
section
variable {H : Type} {enc : TypeId × Value → H} {W : World}
theorem chainLooks_open {f0 : Nat} {c0 : Array Value} {x0 : DataW H × List MemPlace} (h0 : DataW.trod enc Tryz.prog W 0 (fun _ => true) true f0 78 c0.toList = some x0) (b0 : Rows.uptoBulk x0.1 ≤ 1048576) :
    Calls Tryz.prog 12 #[.agg c0] W fun e w' => e = .returned (.bool true) ∧ Below W.heap.size W w' := by
  obtain ⟨sl, ce, k0, k1, ao, cap, os, e0, g0, l0, -⟩ := open_sc h0 b0
  obtain rfl : c0 = #[.int .i64 sl, .int .i64 ce, .int .i64 k0, .int .i64 k1, .slice ao os.length cap] := by cases c0; simp_all
  exact chainLooks_walk W sl ce k0 k1 ao cap os g0 l0
end
theorem chainAll_walk (w : World) (sl ce b0 b1 : Int) (ao : Option Addr) (cap : Nat) (os : List O4) (hin : InG opC w w.heap.size (.slice ao os.length cap) os) (hl : os.length ≤ 1048576) : Calls Tryz.prog 13 #[.agg #[.int .i64 sl, .int .i64 ce, .int .i64 b0, .int .i64 b1, .slice ao os.length cap]] w fun e w' => e = .returned (.bool true) ∧ Below w.heap.size w w' := by
  have g1 := heap_alloc_new w (.cells #[.int .i64 sl, .int .i64 ce, .int .i64 b0, .int .i64 b1, .slice ao os.length cap] 78)
  obtain ⟨W1, hW1⟩ : ∃ W, w.alloc (.cells #[.int .i64 sl, .int .i64 ce, .int .i64 b0, .int .i64 b1, .slice ao os.length cap] 78) = W := ⟨_, rfl⟩
  rw [hW1] at g1
  have hb1 : Below w.heap.size w W1 := by rw [← hW1]; exact (Below.refl _ _).alloc (Nat.le_refl _) _
  have H1 : Hid (Below w.heap.size w W1) := hb1
  have o0 : W1.cell? ⟨w.heap.size, 0, none⟩ = some (.int .i64 sl) := (cell?_heap g1 0).trans rfl
  have o1 : W1.cell? ⟨w.heap.size, 0 + 1, none⟩ = some (.int .i64 ce) := (cell?_heap g1 1).trans rfl
  have o2 : W1.cell? ⟨w.heap.size, 0 + 1 + 1, none⟩ = some (.int .i64 b0) := (cell?_heap g1 2).trans rfl
  have o3 : W1.cell? ⟨w.heap.size, 0 + 1 + 1 + 1, none⟩ = some (.int .i64 b1) := (cell?_heap g1 3).trans rfl
  have o4 : W1.cell? ⟨w.heap.size, 0 + 1 + 1 + 1 + 1, none⟩ = some (.slice ao os.length cap) := (cell?_heap g1 4).trans rfl
  have HA : Hid (∀ _ : Unit, _) := fun _ => law_runs W1 sl ce b0 b1 ao cap 15 os ((hin.later hb1).up hb1.size) hl
  clear hin g1 hb1
  go_enter Tryz.func13, Tryz.ntmps13
  go_wp2_with fail
  clear hW1
  refine (HA.out ()).mono ?_
  rintro e w2 ⟨rfl, hb⟩
  have HF : Hid (Below w.heap.size w w2) := H1.out.trans (hb.mono H1.out.size)
  clear HA hb o0 o1 o2 o3 o4
  go_wp2
  go_ret
  exact ⟨rfl, HF.out⟩
section
variable {H : Type} {enc : TypeId × Value → H} {W : World}
theorem chainAll_open {f0 : Nat} {c0 : Array Value} {x0 : DataW H × List MemPlace} (h0 : DataW.trod enc Tryz.prog W 0 (fun _ => true) true f0 78 c0.toList = some x0) (b0 : Rows.uptoBulk x0.1 ≤ 1048576) :
    Calls Tryz.prog 13 #[.agg c0] W fun e w' => e = .returned (.bool true) ∧ Below W.heap.size W w' := by
  obtain ⟨sl, ce, k0, k1, ao, cap, os, e0, g0, l0, -⟩ := open_sc h0 b0
  obtain rfl : c0 = #[.int .i64 sl, .int .i64 ce, .int .i64 k0, .int .i64 k1, .slice ao os.length cap] := by cases c0; simp_all
  exact chainAll_walk W sl ce k0 k1 ao cap os g0 l0
end
end Go.Proofs.YtdjklcmkcccpeaaGreat
