import Derived.Test.YtgopplgknplkiaaGreatDoorDe1
import Derived.OwnWalk
import Derived.Laws.OwnMore
import Derived.Laws.Rows
namespace Go.Proofs.YtgopplgknplkiaaGreatDoor
set_option linter.unusedSimpArgs false
open Go.ChangeShapes Go.WideShapes Go.ChangeAt Go.RowKit
set_option linter.unusedVariables false
set_option maxRecDepth 100000
/-- An erasure lies in three cells. -/
structure ErAt (w : World) (b o : Nat) (p : ER) : Prop where
  c0 : w.cell? ⟨b, o, none⟩ = some (.int .u64 p.beg)
  c1 : w.cell? ⟨b, o + 1, none⟩ = some (.int .u64 p.fin)
  c2 : w.cell? ⟨b, o + 2, none⟩ = some (.string p.key)
theorem ErAt.later {w w' : World} {B b o : Nat} {p : ER} (h : ErAt w b o p) (hb : Below B w w') (hB : b < B) : ErAt w' b o p :=
  ⟨(hb.cell hB).trans h.c0, (hb.cell hB).trans h.c1, (hb.cell hB).trans h.c2⟩
/-- The erasures ps lie at ao, in blocks below B. -/
def SeesE (w : World) (B : Nat) (ao : Option Addr) (ps : List ER) : Prop := ∀ i (hi : i < ps.length), ∃ b off, ao = some ⟨b, off, none⟩ ∧ b < B ∧ ErAt w b (off + i * 3) ps[i]
theorem SeesE.later {w w' : World} {B : Nat} {ao : Option Addr} {ps : List ER} (h : SeesE w B ao ps) (hb : Below B w w') : SeesE w' B ao ps := fun i hi => by
  obtain ⟨b, off, e, hbB, c⟩ := h i hi
  exact ⟨b, off, e, hbB, c.later hb hbB⟩
/-- A pair of files in a block of its own. -/
def Fp6 (W : World) (g : Nat) (a b c d e f : Value) : Prop := W.heap[g]? = some (.cells #[a, b, c, d, e, f] 26 (0, 0))
theorem Fp6.cell {W : World} {g : Nat} {a b c d e f : Value} (h : Fp6 W g a b c d e f) (j : Nat) : W.cell? ⟨g, j, none⟩ = (#[a, b, c, d, e, f] : Array Value)[j]? := cells_at h j
theorem Fp6.free {W : World} {g : Nat} {a b c d e f : Value} (h : Fp6 W g a b c d e f) (j : Nat) : W.frozen? ⟨g, j, none⟩ = false := by
  unfold Fp6 at h
  simp [World.frozen?, h]
theorem Fp6.lt {W : World} {g : Nat} {a b c d e f : Value} (h : Fp6 W g a b c d e f) : g < W.heap.size := (Array.getElem?_eq_some_iff.1 h).1
theorem Fp6.later {W W' : World} {B g : Nat} {a b c d e f : Value} (h : Fp6 W g a b c d e f) (hb : Below B W W') (hB : g < B) : Fp6 W' g a b c d e f := (hb.block g hB).trans h
set_option maxHeartbeats 6400000 in
theorem deltaMay_any (w : World) (id gen lo hi : Int) (da ao : Option Addr) (dn dc cap : Nat) (ps : List ER) (hs : SeesE w w.heap.size ao ps) :
    Calls Tryz.prog 18 #[.agg #[.int .i64 id, .int .u64 lo, .int .u64 hi, .slice da dn dc, .int .i64 gen, .slice ao ps.length cap]] w (RetB (mayD id gen ps) w) := by
  have HS : Hid (SeesE w w.heap.size ao ps) := hs
  clear hs
  by_cases hh : (1 ≤ id ∧ id ≤ 99999999) ∧ (1 ≤ gen ∧ gen ≤ 99999999) ∧ (1 ≤ ps.length ∧ ps.length ≤ 65536)
  · obtain ⟨⟨g1, g2⟩, ⟨n1, n2⟩, l0, l1⟩ := hh
    have HB0 : Hid (Below w.heap.size w (w.alloc (.cells #[.int .i64 id, .int .u64 lo, .int .u64 hi, .slice da dn dc, .int .i64 gen, .slice ao ps.length cap] 26))) := (Below.refl _ _).alloc (Nat.le_refl _) _
    have HF0 : Hid (Fp6 (w.alloc (.cells #[.int .i64 id, .int .u64 lo, .int .u64 hi, .slice da dn dc, .int .i64 gen, .slice ao ps.length cap] 26)) w.heap.size (.int .i64 id) (.int .u64 lo) (.int .u64 hi) (.slice da dn dc) (.int .i64 gen) (.slice ao ps.length cap)) := heap_alloc_new w _
    have l0' : (1 : Int) ≤ (ps.length : Int) := by omega
    have l1' : (ps.length : Int) ≤ 65536 := by omega
    go_enter Tryz.func18, Tryz.ntmps18
    go_wp2_with fail
    go_loopw [3] (fun i wr => ∃ k : Nat, k ≤ ps.length ∧ i = .int .i64 k ∧ (∀ j (hj : j < ps.length), j < k → okE ps j hj) ∧ Fp6 wr w.heap.size (.int .i64 id) (.int .u64 lo) (.int .u64 hi) (.slice da dn dc) (.int .i64 gen) (.slice ao ps.length cap) ∧ Below w.heap.size w wr) (fun i _ => ps.length - (intOf i).toNat)
    case atStart => exact ⟨0, Nat.zero_le _, rfl, fun j _ h => absurd h (by omega), HF0.out, HB0.out⟩
    case round =>
      obtain ⟨k, hk, rfl, hok, hbox, hbel⟩ := hrel
      have HOK : Hid (∀ j (hj : j < ps.length), j < k → okE ps j hj) := hok
      have HFk : Hid (Fp6 wr w.heap.size (.int .i64 id) (.int .u64 lo) (.int .u64 hi) (.slice da dn dc) (.int .i64 gen) (.slice ao ps.length cap)) := hbox
      have HBk : Hid (Below w.heap.size w wr) := hbel
      clear hok hbox hbel HF0 HB0
      have f5 : wr.cell? ⟨w.heap.size, 5, none⟩ = some (.slice ao ps.length cap) := HFk.out.cell 5
      by_cases hkl : k < ps.length
      · obtain ⟨b, off, hao, hb, hat⟩ := (HS.out.later HBk.out) k hkl
        obtain ⟨c0, c1, c2⟩ := hat
        subst hao
        have HBA : Hid (∀ o, Below w.heap.size w (wr.alloc o)) := fun o => HBk.out.alloc HBk.out.size o
        have HK : Hid (∀ s W, _) := fun s W => key_any s W
        have HNO : Hid (¬ mayE ps[k] → ¬ mayD id gen ps) := fun h h2 => h (h2.2.2.2 k hkl).1
        by_cases q1 : ps[k].beg < 1
        · have HN1 : Hid (¬ mayD id gen ps) := HNO.out (fun h => by have := h.1; omega)
          go_wp2
          go_ret
          exact RetB.no rfl HN1.out (HBA.out _)
        · by_cases q2 : ps[k].fin ≤ ps[k].beg
          · have HN1 : Hid (¬ mayD id gen ps) := HNO.out (fun h => by have := h.2.1; omega)
            go_wp2
            go_ret
            exact RetB.no rfl HN1.out (HBA.out _)
          · by_cases q3 : 4611686018427387903 < ps[k].fin
            · have HN1 : Hid (¬ mayD id gen ps) := HNO.out (fun h => by have := h.2.2.1; omega)
              go_wp2
              go_ret
              exact RetB.no rfl HN1.out (HBA.out _)
            · by_cases q4 : 1 ≤ ps[k].key.size ∧ ps[k].key.size ≤ 160
              · have HK1 : Hid (∀ W, Calls Tryz.prog 38 #[.string ps[k].key] W fun e w' => e = .returned (.bool true) ∧ w' = W) := fun W => by
                  have := key_any ps[k].key W
                  rwa [decide_eq_true q4] at this
                have HME : Hid (mayE ps[k]) := ⟨by omega, by omega, by omega, q4.1, q4.2⟩
                clear q4
                go_wp2_with fail
                refine (HK1.out _).mono ?_
                rintro e w1 ⟨rfl, rfl⟩
                go_wp2_with fail
                have HB1 : Hid (Below w.heap.size w (wr.alloc (.cells #[.int .u64 ps[k].beg, .int .u64 ps[k].fin, .string ps[k].key] 46))) := HBA.out _
                have HF1 : Hid (Fp6 (wr.alloc (.cells #[.int .u64 ps[k].beg, .int .u64 ps[k].fin, .string ps[k].key] 46)) w.heap.size (.int .i64 id) (.int .u64 lo) (.int .u64 hi) (.slice da dn dc) (.int .i64 gen) (.slice (some ⟨b, off, none⟩) ps.length cap)) := (Below.heap_alloc _ _ _ HFk.out.lt).trans HFk.out
                have e0 : (wr.alloc (.cells #[.int .u64 ps[k].beg, .int .u64 ps[k].fin, .string ps[k].key] 46)).cell? ⟨wr.heap.size, 0, none⟩ = some (.int .u64 ps[k].beg) := by simp [go_sem]
                have e2 : (wr.alloc (.cells #[.int .u64 ps[k].beg, .int .u64 ps[k].fin, .string ps[k].key] 46)).cell? ⟨wr.heap.size, 2, none⟩ = some (.string ps[k].key) := by simp [go_sem]
                generalize hW1 : wr.alloc (.cells #[.int .u64 ps[k].beg, .int .u64 ps[k].fin, .string ps[k].key] 46) = W1 at *
                generalize hXX : wr.heap.size = X at *
                clear hW1 hXX c0 c1 c2 f5 HBA HK HK1 HFk HBk
                have f5 : W1.cell? ⟨w.heap.size, 5, none⟩ = some (.slice (some ⟨b, off, none⟩) ps.length cap) := HF1.out.cell 5
                rcases Nat.eq_zero_or_pos k with hk0 | hk0
                · subst hk0
                  have HO : Hid (okE ps 0 hkl) := ⟨HME.out, fun j hj => absurd hj (by omega)⟩
                  (refine wp_region_held_drew (S := (fun W => W.cell? ⟨w.heap.size, 5, none⟩ = some (.slice (some ⟨b, off, none⟩) ps.length cap))) (by kernel_rfl) f5 (fun hHeld => ?_); simp only [List.size_toArray, List.length_cons, List.length_nil, Nat.reduceAdd, Array.replicate_succ, Array.replicate_zero, List.push_toArray, List.append_toArray, List.nil_append, List.cons_append])
                  (refine tk0 (v := ?_) (by kernel_rfl) (by kernel_rfl) (by kernel_rfl) (fun _ _ _ h => h) (Or.inl ⟨by rfl, ?_⟩) (by assumption) ?_; rotate_left; (focus (intro w hSw; (try dsimp only at hSw); go_simp; (try first | (rw [dif_pos (by omega)]; simp only [Result.andThen_ok]) | rw [if_pos (by omega)]); (try with_reducible rfl); done)); try simp only [Act.put, List.setIfInBounds_toArray, List.set_cons_zero, List.set_cons_succ])
                  (refine tk1 (v := ?_) (by kernel_rfl) (by kernel_rfl) (by kernel_rfl) (fun _ _ _ h => h) (Or.inl ⟨by rfl, ?_⟩) (by assumption) ?_; rotate_left; (focus (intro w hSw; (try dsimp only at hSw); go_simp; (try first | (rw [dif_pos (by omega)]; simp only [Result.andThen_ok]) | rw [if_pos (by omega)]); (try with_reducible rfl); done)); try simp only [Act.put, List.setIfInBounds_toArray, List.set_cons_zero, List.set_cons_succ])
                  (refine tk2 (v := ?_) (by kernel_rfl) (by kernel_rfl) (by kernel_rfl) (fun _ _ _ h => h) (Or.inl ⟨by rfl, ?_⟩) (by assumption) ?_; rotate_left; (focus (intro w hSw; (try dsimp only at hSw); go_simp; (try first | (rw [dif_pos (by omega)]; simp only [Result.andThen_ok]) | rw [if_pos (by omega)]); (try with_reducible rfl); done)); try simp only [Act.put, List.setIfInBounds_toArray, List.set_cons_zero, List.set_cons_succ])
                  (refine tk3 (v := undef) (by kernel_rfl) (by kernel_rfl) (by kernel_rfl) (fun _ _ _ h => h) (Or.inr ⟨by rfl, rfl⟩) (by assumption) ?_; try simp only [Act.put, List.setIfInBounds_toArray, List.set_cons_zero, List.set_cons_succ])
                  (refine tk4 (v := undef) (by kernel_rfl) (by kernel_rfl) (by kernel_rfl) (fun _ _ _ h => h) (Or.inr ⟨by rfl, rfl⟩) (by assumption) ?_; try simp only [Act.put, List.setIfInBounds_toArray, List.set_cons_zero, List.set_cons_succ])
                  (refine tk5 (v := undef) (by kernel_rfl) (by kernel_rfl) (by kernel_rfl) (fun _ _ _ h => h) (Or.inr ⟨by rfl, rfl⟩) (by assumption) ?_; try simp only [Act.put, List.setIfInBounds_toArray, List.set_cons_zero, List.set_cons_succ])
                  (refine tk6 (v := undef) (by kernel_rfl) (by kernel_rfl) (by kernel_rfl) (fun _ _ _ h => h) (Or.inr ⟨by rfl, rfl⟩) (by assumption) ?_; try simp only [Act.put, List.setIfInBounds_toArray, List.set_cons_zero, List.set_cons_succ])
                  (refine tk7 (v := undef) (by kernel_rfl) (by kernel_rfl) (by kernel_rfl) (fun _ _ _ h => h) (Or.inr ⟨by rfl, rfl⟩) (by assumption) ?_; try simp only [Act.put, List.setIfInBounds_toArray, List.set_cons_zero, List.set_cons_succ])
                  (refine tk8 (v := undef) (by kernel_rfl) (by kernel_rfl) (by kernel_rfl) (fun _ _ _ h => h) (Or.inr ⟨by rfl, rfl⟩) (by assumption) ?_; try simp only [Act.put, List.setIfInBounds_toArray, List.set_cons_zero, List.set_cons_succ])
                  (refine tk9 (v := undef) (by kernel_rfl) (by kernel_rfl) (by kernel_rfl) (fun _ _ _ h => h) (Or.inr ⟨by rfl, rfl⟩) (by assumption) ?_; try simp only [Act.put, List.setIfInBounds_toArray, List.set_cons_zero, List.set_cons_succ])
                  (refine tk10 (v := undef) (by kernel_rfl) (by kernel_rfl) (by kernel_rfl) (fun _ _ _ h => h) (Or.inr ⟨by rfl, rfl⟩) (by assumption) ?_; try simp only [Act.put, List.setIfInBounds_toArray, List.set_cons_zero, List.set_cons_succ])
                  (refine tk11 (v := undef) (by kernel_rfl) (by kernel_rfl) (by kernel_rfl) (fun _ _ _ h => h) (Or.inr ⟨by rfl, rfl⟩) (by assumption) ?_; try simp only [Act.put, List.setIfInBounds_toArray, List.set_cons_zero, List.set_cons_succ])
                  (refine tk12 (v := undef) (by kernel_rfl) (by kernel_rfl) (by kernel_rfl) (fun _ _ _ h => h) (Or.inr ⟨by rfl, rfl⟩) (by assumption) ?_; try simp only [Act.put, List.setIfInBounds_toArray, List.set_cons_zero, List.set_cons_succ])
                  (refine tk13 (v := undef) (by kernel_rfl) (by kernel_rfl) (by kernel_rfl) (fun _ _ _ h => h) (Or.inr ⟨by rfl, rfl⟩) (by assumption) ?_; try simp only [Act.put, List.setIfInBounds_toArray, List.set_cons_zero, List.set_cons_succ])
                  (refine tk14 (v := undef) (by kernel_rfl) (by kernel_rfl) (by kernel_rfl) (fun _ _ _ h => h) (Or.inr ⟨by rfl, rfl⟩) (by assumption) ?_; try simp only [Act.put, List.setIfInBounds_toArray, List.set_cons_zero, List.set_cons_succ])
                  (refine tk15 (v := undef) (by kernel_rfl) (by kernel_rfl) (by kernel_rfl) (fun _ _ _ h => h) (Or.inr ⟨by rfl, rfl⟩) (by assumption) ?_; try simp only [Act.put, List.setIfInBounds_toArray, List.set_cons_zero, List.set_cons_succ])
                  (refine tk16 (v := undef) (by kernel_rfl) (by kernel_rfl) (by kernel_rfl) (fun _ _ _ h => h) (Or.inr ⟨by rfl, rfl⟩) (by assumption) ?_; try simp only [Act.put, List.setIfInBounds_toArray, List.set_cons_zero, List.set_cons_succ])
                  (refine tk17 (v := undef) (by kernel_rfl) (by kernel_rfl) (by kernel_rfl) (fun _ _ _ h => h) (Or.inr ⟨by rfl, rfl⟩) (by assumption) ?_; try simp only [Act.put, List.setIfInBounds_toArray, List.set_cons_zero, List.set_cons_succ])
                  (refine tk18 (v := undef) (by kernel_rfl) (by kernel_rfl) (by kernel_rfl) (fun _ _ _ h => h) (Or.inr ⟨by rfl, rfl⟩) (by assumption) ?_; try simp only [Act.put, List.setIfInBounds_toArray, List.set_cons_zero, List.set_cons_succ])
                  (refine tk19 (v := undef) (by kernel_rfl) (by kernel_rfl) (by kernel_rfl) (fun _ _ _ h => h) (Or.inr ⟨by rfl, rfl⟩) (by assumption) ?_; try simp only [Act.put, List.setIfInBounds_toArray, List.set_cons_zero, List.set_cons_succ])
                  (refine tk20 (v := undef) (by kernel_rfl) (by kernel_rfl) (by kernel_rfl) (fun _ _ _ h => h) (Or.inr ⟨by rfl, rfl⟩) (by assumption) ?_; try simp only [Act.put, List.setIfInBounds_toArray, List.set_cons_zero, List.set_cons_succ])
                  (refine tk21 (v := undef) (by kernel_rfl) (by kernel_rfl) (by kernel_rfl) (fun _ _ _ h => h) (Or.inr ⟨by rfl, rfl⟩) (by assumption) ?_; try simp only [Act.put, List.setIfInBounds_toArray, List.set_cons_zero, List.set_cons_succ])
                  (refine tk22 (v := undef) (by kernel_rfl) (by kernel_rfl) (by kernel_rfl) (fun _ _ _ h => h) (Or.inr ⟨by rfl, rfl⟩) (by assumption) ?_; try simp only [Act.put, List.setIfInBounds_toArray, List.set_cons_zero, List.set_cons_succ])
                  (refine tk23 (v := ?_) (by kernel_rfl) (by kernel_rfl) (by kernel_rfl) (fun _ _ _ h => h) (Or.inl ⟨by rfl, ?_⟩) (by assumption) ?_; rotate_left; (focus (intro w hSw; (try dsimp only at hSw); go_simp; (try first | (rw [dif_pos (by omega)]; simp only [Result.andThen_ok]) | rw [if_pos (by omega)]); (try with_reducible rfl); done)); try simp only [Act.put, List.setIfInBounds_toArray, List.set_cons_zero, List.set_cons_succ])
                  refine wpAnyH_done (by kernel_rfl) ?_ _
                  go_wp2
                  go_roundw
                  case rel =>
                    refine ⟨1, by omega, by go_num, fun j hj hj1 => ?_, HF1.out, HB1.out.drew⟩
                    obtain rfl : j = 0 := by omega
                    exact HO.out
                  case measure => simp [intOf]; omega
                · obtain ⟨j, rfl⟩ : ∃ j, k = j + 1 := ⟨k - 1, by omega⟩
                  have hw1 : IntKind.i64.wrap (((j + 1 : Nat) : Int) - 1) = (j : Int) := by rw [IntKind.wrap_i64]; omega
                  have hw2 : IntKind.i64.wrap ((j : Int) + 1 - 1) = (j : Int) := by rw [IntKind.wrap_i64]; omega
                  have hw3 : IntKind.i64.wrap (j : Int) = (j : Int) := by rw [IntKind.wrap_i64]; omega
                  have hjl : (j : Int) < (ps.length : Int) := by omega
                  obtain ⟨b', off', hao', hb', hat'⟩ := (HS.out.later HB1.out) j (by omega)
                  injection hao' with hao'
                  injection hao' with i1 i2
                  subst i1 i2
                  obtain ⟨d0, d1, d2⟩ := hat'
                  have HA : Hid (∀ W, _) := fun W => ahead_any ps[j].beg ps[j].key ps[j + 1].beg ps[j + 1].key W
                  have hXl : X < W1.heap.size := cell_ltM e0
                  have hwl : w.heap.size < W1.heap.size := HF1.out.lt
                  clear d1
                  (refine wp_region_held_drew (S := (fun W => W.cell? ⟨w.heap.size, 5, none⟩ = some (.slice (some ⟨b, off, none⟩) ps.length cap) ∧ W.cell? ⟨b, off + j * 3, none⟩ = some (.int .u64 ps[j].beg) ∧ W.cell? ⟨b, off + j * 3 + 2, none⟩ = some (.string ps[j].key) ∧ W.cell? ⟨X, 0, none⟩ = some (.int .u64 ps[j + 1].beg) ∧ W.cell? ⟨X, 2, none⟩ = some (.string ps[j + 1].key))) (by kernel_rfl) ⟨f5, d0, d2, e0, e2⟩ (fun hHeld => ?_); simp only [List.size_toArray, List.length_cons, List.length_nil, Nat.reduceAdd, Array.replicate_succ, Array.replicate_zero, List.push_toArray, List.append_toArray, List.nil_append, List.cons_append])
                  (refine tk0 (v := ?_) (by kernel_rfl) (by kernel_rfl) (by kernel_rfl) (fun _ _ _ h => h) (Or.inl ⟨by rfl, ?_⟩) (by assumption) ?_; rotate_left; (focus (intro w hSw; (try dsimp only at hSw); go_simp; (try first | (rw [dif_pos (by omega)]; simp only [Result.andThen_ok]) | rw [if_pos (by omega)]); (try with_reducible rfl); done)); try simp only [Act.put, List.setIfInBounds_toArray, List.set_cons_zero, List.set_cons_succ])
                  (refine tk1 (v := ?_) (by kernel_rfl) (by kernel_rfl) (by kernel_rfl) (fun _ _ _ h => h) (Or.inl ⟨by rfl, ?_⟩) (by assumption) ?_; rotate_left; (focus (intro w hSw; (try dsimp only at hSw); go_simp; (try first | (rw [dif_pos (by omega)]; simp only [Result.andThen_ok]) | rw [if_pos (by omega)]); (try with_reducible rfl); done)); try simp only [Act.put, List.setIfInBounds_toArray, List.set_cons_zero, List.set_cons_succ])
                  (refine tk2 (v := ?_) (by kernel_rfl) (by kernel_rfl) (by kernel_rfl) (fun _ _ _ h => h) (Or.inl ⟨by rfl, ?_⟩) (by assumption) ?_; rotate_left; (focus (intro w hSw; (try dsimp only at hSw); go_simp; (try first | (rw [dif_pos (by omega)]; simp only [Result.andThen_ok]) | rw [if_pos (by omega)]); (try with_reducible rfl); done)); try simp only [Act.put, List.setIfInBounds_toArray, List.set_cons_zero, List.set_cons_succ])
                  (refine tk3 (v := ?_) (by kernel_rfl) (by kernel_rfl) (by kernel_rfl) (fun _ _ _ h => h) (Or.inl ⟨by rfl, ?_⟩) (by assumption) ?_; rotate_left; (focus (intro w hSw; (try dsimp only at hSw); go_simp; (try first | (rw [dif_pos (by omega)]; simp only [Result.andThen_ok]) | rw [if_pos (by omega)]); (try with_reducible rfl); done)); try simp only [Act.put, List.setIfInBounds_toArray, List.set_cons_zero, List.set_cons_succ])
                  (refine tk4 (v := ?_) (by kernel_rfl) (by kernel_rfl) (by kernel_rfl) (fun _ _ _ h => h) (Or.inl ⟨by rfl, ?_⟩) (by assumption) ?_; rotate_left; (focus (intro w hSw; (try dsimp only at hSw); go_simp; (try first | (rw [dif_pos (by omega)]; simp only [Result.andThen_ok]) | rw [if_pos (by omega)]); (try with_reducible rfl); done)); try simp only [Act.put, List.setIfInBounds_toArray, List.set_cons_zero, List.set_cons_succ])
                  (refine tk5 (v := ?_) (by kernel_rfl) (by kernel_rfl) (by kernel_rfl) (fun _ _ _ h => h) (Or.inl ⟨by rfl, ?_⟩) (by assumption) ?_; rotate_left; (focus (intro w hSw; (try dsimp only at hSw); go_simp; (try first | (rw [dif_pos (by omega)]; simp only [Result.andThen_ok]) | rw [if_pos (by omega)]); (try with_reducible rfl); done)); try simp only [Act.put, List.setIfInBounds_toArray, List.set_cons_zero, List.set_cons_succ])
                  (refine tk6 (v := ?_) (by kernel_rfl) (by kernel_rfl) (by kernel_rfl) (fun _ _ _ h => h) (Or.inl ⟨by rfl, ?_⟩) (by assumption) ?_; rotate_left; (focus (intro w hSw; (try dsimp only at hSw); go_simp; (try first | (rw [dif_pos (by omega)]; simp only [Result.andThen_ok]) | rw [if_pos (by omega)]); (try with_reducible rfl); done)); try simp only [Act.put, List.setIfInBounds_toArray, List.set_cons_zero, List.set_cons_succ])
                  (refine tk7 (v := ?_) (by kernel_rfl) (by kernel_rfl) (by kernel_rfl) (fun _ _ _ h => h) (Or.inl ⟨by rfl, ?_⟩) (by assumption) ?_; rotate_left; (focus (intro w hSw; (try dsimp only at hSw); go_simp; (try first | (rw [dif_pos (by omega)]; simp only [Result.andThen_ok]) | rw [if_pos (by omega)]); (try with_reducible rfl); done)); try simp only [Act.put, List.setIfInBounds_toArray, List.set_cons_zero, List.set_cons_succ])
                  (refine tk8 (v := ?_) (by kernel_rfl) (by kernel_rfl) (by kernel_rfl) (fun _ _ _ h => h) (Or.inl ⟨by rfl, ?_⟩) (by assumption) ?_; rotate_left; (focus (intro w hSw; (try dsimp only at hSw); go_simp; (try first | (rw [dif_pos (by omega)]; simp only [Result.andThen_ok]) | rw [if_pos (by omega)]); (try with_reducible rfl); done)); try simp only [Act.put, List.setIfInBounds_toArray, List.set_cons_zero, List.set_cons_succ])
                  (refine tk9 (v := ?_) (by kernel_rfl) (by kernel_rfl) (by kernel_rfl) (fun _ _ _ h => h) (Or.inl ⟨by rfl, ?_⟩) (by assumption) ?_; rotate_left; (focus (intro w hSw; (try dsimp only at hSw); go_simp; (try first | (rw [dif_pos (by omega)]; simp only [Result.andThen_ok]) | rw [if_pos (by omega)]); (try with_reducible rfl); done)); try simp only [Act.put, List.setIfInBounds_toArray, List.set_cons_zero, List.set_cons_succ])
                  (refine tk10 (v := ?_) (by kernel_rfl) (by kernel_rfl) (by kernel_rfl) (fun _ _ _ h => h) (Or.inl ⟨by rfl, ?_⟩) (by assumption) ?_; rotate_left; (focus (intro w hSw; (try dsimp only at hSw); go_simp; (try first | (rw [dif_pos (by omega)]; simp only [Result.andThen_ok]) | rw [if_pos (by omega)]); (try with_reducible rfl); done)); try simp only [Act.put, List.setIfInBounds_toArray, List.set_cons_zero, List.set_cons_succ])
                  (refine tk11 (v := ?_) (by kernel_rfl) (by kernel_rfl) (by kernel_rfl) (fun _ _ _ h => h) (Or.inl ⟨by rfl, ?_⟩) (by assumption) ?_; rotate_left; (focus (intro w hSw; (try dsimp only at hSw); go_simp; (try first | (rw [dif_pos (by omega)]; simp only [Result.andThen_ok]) | rw [if_pos (by omega)]); (try with_reducible rfl); done)); try simp only [Act.put, List.setIfInBounds_toArray, List.set_cons_zero, List.set_cons_succ])
                  (refine tk12 (v := ?_) (by kernel_rfl) (by kernel_rfl) (by kernel_rfl) (fun _ _ _ h => h) (Or.inl ⟨by rfl, ?_⟩) (by assumption) ?_; rotate_left; (focus (intro w hSw; (try dsimp only at hSw); go_simp; (try first | (rw [dif_pos (by omega)]; simp only [Result.andThen_ok]) | rw [if_pos (by omega)]); (try with_reducible rfl); done)); try simp only [Act.put, List.setIfInBounds_toArray, List.set_cons_zero, List.set_cons_succ])
                  (refine tk13 (v := ?_) (by kernel_rfl) (by kernel_rfl) (by kernel_rfl) (fun _ _ _ h => h) (Or.inl ⟨by rfl, ?_⟩) (by assumption) ?_; rotate_left; (focus (intro w hSw; (try dsimp only at hSw); go_simp; (try first | (rw [dif_pos (by omega)]; simp only [Result.andThen_ok]) | rw [if_pos (by omega)]); (try with_reducible rfl); done)); try simp only [Act.put, List.setIfInBounds_toArray, List.set_cons_zero, List.set_cons_succ])
                  (refine tk14 (v := ?_) (by kernel_rfl) (by kernel_rfl) (by kernel_rfl) (fun _ _ _ h => h) (Or.inl ⟨by rfl, ?_⟩) (by assumption) ?_; rotate_left; (focus (intro w hSw; (try dsimp only at hSw); go_simp; (try first | (rw [dif_pos (by omega)]; simp only [Result.andThen_ok]) | rw [if_pos (by omega)]); (try with_reducible rfl); done)); try simp only [Act.put, List.setIfInBounds_toArray, List.set_cons_zero, List.set_cons_succ])
                  (refine tk15 (v := ?_) (by kernel_rfl) (by kernel_rfl) (by kernel_rfl) (fun _ _ _ h => h) (Or.inl ⟨by rfl, ?_⟩) (by assumption) ?_; rotate_left; (focus (intro w hSw; (try dsimp only at hSw); go_simp; (try first | (rw [dif_pos (by omega)]; simp only [Result.andThen_ok]) | rw [if_pos (by omega)]); (try with_reducible rfl); done)); try simp only [Act.put, List.setIfInBounds_toArray, List.set_cons_zero, List.set_cons_succ])
                  (refine tk16 (v := ?_) (by kernel_rfl) (by kernel_rfl) (by kernel_rfl) (fun _ _ _ h => h) (Or.inl ⟨by rfl, ?_⟩) (by assumption) ?_; rotate_left; (focus (intro w hSw; (try dsimp only at hSw); go_simp; (try first | (rw [dif_pos (by omega)]; simp only [Result.andThen_ok]) | rw [if_pos (by omega)]); (try with_reducible rfl); done)); try simp only [Act.put, List.setIfInBounds_toArray, List.set_cons_zero, List.set_cons_succ])
                  (refine tk17 (v := ?_) (by kernel_rfl) (by kernel_rfl) (by kernel_rfl) (fun _ _ _ h => h) (Or.inl ⟨by rfl, ?_⟩) (by assumption) ?_; rotate_left; (focus (intro w hSw; (try dsimp only at hSw); go_simp; (try first | (rw [dif_pos (by omega)]; simp only [Result.andThen_ok]) | rw [if_pos (by omega)]); (try with_reducible rfl); done)); try simp only [Act.put, List.setIfInBounds_toArray, List.set_cons_zero, List.set_cons_succ])
                  (refine tk18 (v := ?_) (by kernel_rfl) (by kernel_rfl) (by kernel_rfl) (fun _ _ _ h => h) (Or.inl ⟨by rfl, ?_⟩) (by assumption) ?_; rotate_left; (focus (intro w hSw; (try dsimp only at hSw); go_simp; (try first | (rw [dif_pos (by omega)]; simp only [Result.andThen_ok]) | rw [if_pos (by omega)]); (try with_reducible rfl); done)); try simp only [Act.put, List.setIfInBounds_toArray, List.set_cons_zero, List.set_cons_succ])
                  (refine tk19 (v := ?_) (by kernel_rfl) (by kernel_rfl) (by kernel_rfl) (fun _ _ _ h => h) (Or.inl ⟨by rfl, ?_⟩) (by assumption) ?_; rotate_left; (focus (intro w hSw; (try dsimp only at hSw); go_simp; (try first | (rw [dif_pos (by omega)]; simp only [Result.andThen_ok]) | rw [if_pos (by omega)]); (try with_reducible rfl); done)); try simp only [Act.put, List.setIfInBounds_toArray, List.set_cons_zero, List.set_cons_succ])
                  (refine tk20 (v := ?_) (by kernel_rfl) (by kernel_rfl) (by kernel_rfl) (fun _ _ _ h => h) (Or.inl ⟨by rfl, ?_⟩) (by assumption) ?_; rotate_left; (focus (intro w hSw; (try dsimp only at hSw); go_simp; (try first | (rw [dif_pos (by omega)]; simp only [Result.andThen_ok]) | rw [if_pos (by omega)]); (try with_reducible rfl); done)); try simp only [Act.put, List.setIfInBounds_toArray, List.set_cons_zero, List.set_cons_succ])
                  (refine wpAnyH_ready (rs := [21]) (by kernel_rfl) (by simp) ?_; refine ar21 (fun K hK => ?_) AllReadyH.nil; go_simp)
                  refine (HA.out _).mono ?_
                  rintro _ w2 ⟨c, rfl, hiff, hb2⟩
                  have hb2' : Below W1.heap.size W1 w2 := (Below.refl _ _).drew.trans hb2
                  have HIF : Hid (c = true ↔ aheadP ps[j].beg ps[j].key ps[j + 1].beg ps[j + 1].key) := hiff
                  have HB2 : Hid (Below w.heap.size w w2) := HB1.out.trans (hb2'.mono HB1.out.size)
                  have HF2 : Hid (Fp6 w2 w.heap.size (.int .i64 id) (.int .u64 lo) (.int .u64 hi) (.slice da dn dc) (.int .i64 gen) (.slice (some ⟨b, off, none⟩) ps.length cap)) := HF1.out.later hb2' hwl
                  have S2 : w2.cell? ⟨w.heap.size, 5, none⟩ = some (.slice (some ⟨b, off, none⟩) ps.length cap) ∧ w2.cell? ⟨b, off + j * 3, none⟩ = some (.int .u64 ps[j].beg) ∧ w2.cell? ⟨b, off + j * 3 + 2, none⟩ = some (.string ps[j].key) ∧ w2.cell? ⟨X, 0, none⟩ = some (.int .u64 ps[j + 1].beg) ∧ w2.cell? ⟨X, 2, none⟩ = some (.string ps[j + 1].key) := ⟨(hb2'.cell (p := ⟨w.heap.size, 5, none⟩) hwl).trans f5, (hb2'.cell (p := ⟨b, off + j * 3, none⟩) (by simp only; omega)).trans d0, (hb2'.cell (p := ⟨b, off + j * 3 + 2, none⟩) (by simp only; omega)).trans d2, (hb2'.cell (p := ⟨X, 0, none⟩) hXl).trans e0, (hb2'.cell (p := ⟨X, 2, none⟩) hXl).trans e2⟩
                  clear hiff hb2 hb2' HA f5 d0 d2 e0 e2 hHeld
                  (refine hK.out _ _ S2 (fun hHeld => ?_); clear hK K; try simp only [Act.put, List.setIfInBounds_toArray, List.set_cons_zero, List.set_cons_succ])
                  (refine tk22 (v := ?_) (by kernel_rfl) (by kernel_rfl) (by kernel_rfl) (fun _ _ _ h => h) (Or.inl ⟨by rfl, ?_⟩) (by assumption) ?_; rotate_left; (focus (intro w hSw; (try dsimp only at hSw); go_simp; (try first | (rw [dif_pos (by omega)]; simp only [Result.andThen_ok]) | rw [if_pos (by omega)]); (try with_reducible rfl); done)); try simp only [Act.put, List.setIfInBounds_toArray, List.set_cons_zero, List.set_cons_succ])
                  (refine tk23 (v := ?_) (by kernel_rfl) (by kernel_rfl) (by kernel_rfl) (fun _ _ _ h => h) (Or.inl ⟨by rfl, ?_⟩) (by assumption) ?_; rotate_left; (focus (intro w hSw; (try dsimp only at hSw); go_simp; (try first | (rw [dif_pos (by omega)]; simp only [Result.andThen_ok]) | rw [if_pos (by omega)]); (try with_reducible rfl); done)); try simp only [Act.put, List.setIfInBounds_toArray, List.set_cons_zero, List.set_cons_succ])
                  refine wpAnyH_done (by kernel_rfl) ?_ _
                  clear S2 hHeld
                  cases c
                  · have HN1 : Hid (¬ mayD id gen ps) := fun h => by
                      have := HIF.out.2 ((h.2.2.2 (j + 1) hkl).2 j rfl)
                      cases this
                    go_wp2
                    go_ret
                    exact RetB.no rfl HN1.out HB2.out
                  · have HO : Hid (okE ps (j + 1) hkl) := ⟨HME.out, fun i hi => by
                      have e : i = j := (by omega)
                      subst e
                      exact HIF.out.1 rfl⟩
                    go_wp2
                    go_roundw
                    case rel =>
                      refine ⟨j + 1 + 1, by omega, by go_num, fun i hi hi1 => ?_, HF2.out, HB2.out⟩
                      rcases Nat.lt_or_ge i (j + 1) with h | h
                      · exact HOK.out i hi h
                      · obtain rfl : i = j + 1 := by omega
                        exact HO.out
                    case measure => simp [intOf]; omega
              · have HN1 : Hid (¬ mayD id gen ps) := HNO.out (fun h => q4 ⟨h.2.2.2.1, h.2.2.2.2⟩)
                have HK1 : Hid (∀ W, Calls Tryz.prog 38 #[.string ps[k].key] W fun e w' => e = .returned (.bool false) ∧ w' = W) := fun W => by
                  have := key_any ps[k].key W
                  rwa [decide_eq_false q4] at this
                clear q4
                go_wp2_with fail
                refine (HK1.out _).mono ?_
                rintro e w1 ⟨rfl, rfl⟩
                go_wp2
                go_ret
                exact RetB.no rfl HN1.out (HBA.out _)
      · have hke : k = ps.length := by omega
        subst hke
        go_wp2
        go_ret
        exact RetB.yes rfl ⟨⟨g1, g2⟩, ⟨n1, n2⟩, ⟨l0, l1⟩, fun k hk => HOK.out k hk hk⟩ HBk.out
  · have HN : Hid (¬ mayD id gen ps) := fun h => hh ⟨h.1, h.2.1, h.2.2.1⟩
    have HB : Hid (Below w.heap.size w (w.alloc (.cells #[.int .i64 id, .int .u64 lo, .int .u64 hi, .slice da dn dc, .int .i64 gen, .slice ao ps.length cap] 26))) := (Below.refl _ _).alloc (Nat.le_refl _) _
    go_enter Tryz.func18, Tryz.ntmps18
    go_wp2
    all_goals first | (exfalso; omega) | (go_ret; exact RetB.no rfl HN.out HB.out)
end Go.Proofs.YtgopplgknplkiaaGreatDoor
